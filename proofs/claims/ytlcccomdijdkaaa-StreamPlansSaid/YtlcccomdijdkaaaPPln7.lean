import Derived.Test.YtlcccomdijdkaaaPPln6
import Derived.OrdersHeld
namespace Go.Proofs.Ytlcccomdijdkaaa
open Go.RowKit Go.Proofs.Try

def indexOff_R (s : List Int) : List (Nat × Q) := [(0, (iQZ s))]
def indexOff_k1  (x1 : Unit) : Option Int :=
some (-1)
def indexOff_l1 (s : List Int) : Nat → Int → Option (Lp Unit Int)
  | 0, _ => none
  | n + 1, b1 =>
    (bif decide (b1 < ((s.length : Nat) : Int)) then
    (grd (((0 : Int) ≤ b1 ∧ (b1 : Int) < ((s.length : Nat) : Int))) <|
    (stream_validRoom_1 (s.getD (Int.toNat b1) default)).bind fun (r1 : Bool) =>
    (bif r1 then
    (some (Lp.ret b1))
    else
    (grd (InI64 (b1 + 1)) <|
    indexOff_l1 s n (b1 + 1))))
    else
    (some (Lp.done ())))
def indexOff (fuel : Nat) (s : List Int) : Option Int :=
(indexOff_l1 s fuel 0).bind fun lr1 => lr1.go fun x1 => indexOff_k1 x1
set_option maxRecDepth 100000 in
set_option maxHeartbeats 4000000 in
theorem indexOff_ok (fuel : Nat) (s : List Int) (W : World) (A0 : Option Addr) (c0 : Nat) (h0 : s.length ≤ c0) (s0 : SlAt W A0 s.length 1 fun i => [.int .i64 (s.getD i default)]) (res : Int) (h : indexOff fuel s = some res) :
    Calls Go.Proofs.Try.prog 68 #[.slice A0 s.length c0, .func (.func 60) #[] #[]] W fun e w' => e = .returned (.int .i64 res) ∧ Below W.heap.size W w' := by
  refine sym_call (f := 68) (fn := Go.Proofs.Try.f68) (c := Go.Proofs.Try.f68.body.get rfl) Go.Proofs.Try.func68 rfl [.sl 0, .v (.func (.func 60) #[] #[])] (indexOff_R s) [] (envOf [(0, ⟨A0, s.length, c0, 1⟩)]) allR (fun _ _ => rfl) (by kernel_rfl) (envOf_one trivial) ⟨s0.rd h0, trivial⟩ (AllRR.all _ _) trivial fun E a w S => ?_
  rw [indexOff] at h
  refine sym_seq lay_ok mixed [] [0, 1] [] (⟨[(0, .sl 0), (1, .v (.func (.func 60) #[] #[]))], ⟨[], (indexOff_R s), []⟩⟩) [] S (by kernel_rfl) (by kernel_rfl) (by kernel_rfl) trivial ?_
  clear S; intro E a w S
  refine wp_seq ?_
  refine sym_seq lay_ok mixed [] [0, 1, 7, 8] [] (⟨[(0, .sl 0), (1, .v (.func (.func 60) #[] #[])), (7, iv (((s.length : Nat) : Int))), (8, iv (0))], ⟨[], (indexOff_R s), []⟩⟩) [] S (by kernel_rfl) (by kernel_rfl) (by kernel_rfl) trivial ?_
  clear S; intro E a w S
  obtain ⟨lr1, e1, hp1⟩ := bind_some h
  clear h
  refine sym_block_last (G := fun a w => ∃ E, ∃ x1 : Unit, indexOff_k1 x1 = some res ∧ St ⟨W, noC, Go.Proofs.Try.f68.ntmps, [], allR, noρ, (envOf [(0, ⟨A0, s.length, c0, 1⟩)]).sl, (envOf [(0, ⟨A0, s.length, c0, 1⟩)]).x⟩ (⟨[], ⟨[], (indexOff_R s), []⟩⟩) E a w) ?_ ?_
  · refine wp_loop_rounds fuel ?_
    refine sym_rounds (F := fun n b1 => indexOff_l1 s n b1 = some lr1) (H := fun b1 => ⟨[(0, .sl 0), (1, .v (.func (.func 60) #[] #[])), (7, iv (((s.length : Nat) : Int))), (8, iv (b1))], ⟨[], (indexOff_R s), []⟩⟩) 0 (fun b hb => by have hb : none = some lr1 := hb; cases hb) ?_ _ _ _ _ e1 (St.cast (P := Go.Proofs.Try.prog) [] [] [0, 1, 7, 8] [] [0] _ [] (by kernel_rfl) trivial S)
    clear e1 S
    intro n b1 E a w h ih S
    rw [indexOff_l1] at h
    refine sym_seq lay_ok mixed [] [0, 1, 7, 8, 9] [] (⟨[(0, .sl 0), (1, .v (.func (.func 60) #[] #[])), (7, iv (((s.length : Nat) : Int))), (8, iv (b1)), (9, .v (.bool (decide (b1 < ((s.length : Nat) : Int)))))], ⟨[], (indexOff_R s), []⟩⟩) [] S (by kernel_rfl) (by kernel_rfl) (by kernel_rfl) trivial ?_
    clear S; intro E a w S
    refine sym_if (b := decide (b1 < ((s.length : Nat) : Int))) S rfl (fun hb1 => ?_) (fun hb1 => ?_)
    · have h := bif_t hb1 h
      refine wp_skip ?_
      refine out_then_normal ?_
      refine wp_seq ?_
      refine wp_block ?_
      refine sym_seq lay_ok mixed [] [0, 1, 7, 8, 5] [] (⟨[(0, .sl 0), (1, .v (.func (.func 60) #[] #[])), (7, iv (((s.length : Nat) : Int))), (8, iv (b1)), (5, iv (b1))], ⟨[], (indexOff_R s), []⟩⟩) [] S (by kernel_rfl) (by kernel_rfl) (by kernel_rfl) trivial ?_
      clear S; intro E a w S
      obtain ⟨g1, h⟩ := grd_some h
      obtain ⟨r1, e2, h⟩ := bind_some h
      refine sym_seq lay_ok mixed [(5, { res := .v (.bool r1) })] [0, 1, 7, 8, 5, 16] [] (⟨[(0, .sl 0), (1, .v (.func (.func 60) #[] #[])), (7, iv (((s.length : Nat) : Int))), (8, iv (b1)), (5, iv (b1)), (16, .v (.bool r1))], ⟨[], (indexOff_R s), []⟩⟩) [.idx b1 s.length, .idx b1 s.length, .call ⟨[], (indexOff_R s), []⟩ 60 [iv ((s.getD (Int.toNat b1) default))] (.v (.bool r1))] S (by kernel_rfl) (by kernel_rfl) (by kernel_rfl) ⟨g1, g1, ⟨enters_60, fun _ W _ hm => stream_validRoom_1_ok (s.getD (Int.toNat b1) default) W r1 e2⟩, trivial⟩ ?_
      clear S; intro E a w S
      refine sym_if_last (b := r1) S rfl (fun hb2 => ?_) (fun hb2 => ?_)
      · have h := bif_t hb2 h
        refine sym_seq lay_ok mixed [] [4] [] (⟨[(4, iv (b1))], ⟨[], (indexOff_R s), []⟩⟩) [] S (by kernel_rfl) (by kernel_rfl) (by kernel_rfl) trivial ?_
        clear S; intro E a w S
        refine wp_ret ?_
        refine out_block_ret ?_
        refine out_then_ret ?_
        refine out_then_ret ?_
        refine out_block_ret ?_
        refine out_then_ret ?_
        refine out_then_ret ?_
        have hr := Option.some.inj h
        subst hr
        have hr := Option.some.inj hp1
        subst hr
        exact sym_ret lay_ok [iv (b1)] (by kernel_rfl) rfl S ⟨rfl, S.below rfl⟩
      · have h := bif_f hb2 h
        refine wp_skip ?_
        refine out_block_normal ?_
        refine out_then_normal ?_
        obtain ⟨g2, h⟩ := grd_some h
        refine sym_last lay_ok mixed [] [0, 1, 7, 8] [] (⟨[(0, .sl 0), (1, .v (.func (.func 60) #[] #[])), (7, iv (((s.length : Nat) : Int))), (8, iv ((b1 + 1)))], ⟨[], (indexOff_R s), []⟩⟩) [.rng .i64 (b1 + 1)] S (by kernel_rfl) (by kernel_rfl) (by kernel_rfl) ⟨rngI64 g2, trivial⟩ ?_
        clear S; intro E a w S
        refine out_then_normal ?_
        exact ih (b1 + 1) _ _ _ h (St.cast (P := Go.Proofs.Try.prog) [] [] [0, 1, 7, 8] [] [0] _ [] (by kernel_rfl) trivial S)
    · have h := bif_f hb1 h
      refine wp_exit ?_
      refine out_then_exit ?_
      refine out_then_exit ?_
      refine out_block_here ?_
      refine out_then_normal ?_
      have hr := Option.some.inj h
      subst hr
      exact ⟨_, (), hp1, St.cast (P := Go.Proofs.Try.prog) [] [] [] [] [0] _ [] (by kernel_rfl) trivial S⟩
  clear e1 S
  rintro a w ⟨E, x1, h, S⟩
  rw [indexOff_k1] at h
  refine out_then_normal ?_
  refine sym_seq lay_ok mixed [] [4] [] (⟨[(4, iv ((-1)))], ⟨[], (indexOff_R s), []⟩⟩) [] S (by kernel_rfl) (by kernel_rfl) (by kernel_rfl) trivial ?_
  clear S; intro E a w S
  refine wp_ret ?_
  have h := Option.some.inj h
  subst h
  exact sym_ret lay_ok [iv ((-1))] (by kernel_rfl) rfl S ⟨rfl, S.below rfl⟩
def anyOff_R (s : List Int) : List (Nat × Q) := [(0, (iQZ s))]
def anyOff (fuel : Nat) (s : List Int) : Option Bool :=
(indexOff fuel s).bind fun (r1 : Int) =>
some (decide (0 ≤ r1))
set_option maxRecDepth 100000 in
set_option maxHeartbeats 4000000 in
theorem anyOff_ok (fuel : Nat) (s : List Int) (W : World) (A0 : Option Addr) (c0 : Nat) (h0 : s.length ≤ c0) (s0 : SlAt W A0 s.length 1 fun i => [.int .i64 (s.getD i default)]) (res : Bool) (h : anyOff fuel s = some res) :
    Calls Go.Proofs.Try.prog 59 #[.slice A0 s.length c0, .func (.func 60) #[] #[]] W fun e w' => e = .returned (.bool res) ∧ Below W.heap.size W w' := by
  refine sym_call (f := 59) (fn := Go.Proofs.Try.f59) (c := Go.Proofs.Try.f59.body.get rfl) Go.Proofs.Try.func59 rfl [.sl 0, .v (.func (.func 60) #[] #[])] (anyOff_R s) [] (envOf [(0, ⟨A0, s.length, c0, 1⟩)]) allR (fun _ _ => rfl) (by kernel_rfl) (envOf_one trivial) ⟨s0.rd h0, trivial⟩ (AllRR.all _ _) trivial fun E a w S => ?_
  rw [anyOff] at h
  refine sym_seq lay_ok mixed [] [0, 1] [] (⟨[(0, .sl 0), (1, .v (.func (.func 60) #[] #[]))], ⟨[], (anyOff_R s), []⟩⟩) [] S (by kernel_rfl) (by kernel_rfl) (by kernel_rfl) trivial ?_
  clear S; intro E a w S
  obtain ⟨r1, e1, h⟩ := bind_some h
  refine sym_seq lay_ok mixed [(2, { res := iv (r1) })] [4] [] (⟨[(4, .v (.bool (decide (0 ≤ r1))))], ⟨[], (anyOff_R s), []⟩⟩) [.call ⟨[], (anyOff_R s), []⟩ 68 [.sl 0, .v (.func (.func 60) #[] #[])] (iv (r1))] S (by kernel_rfl) (by kernel_rfl) (by kernel_rfl) ⟨⟨enters_68, fun E W _ hm => by obtain ⟨A0, c0, q0, l0, s0, _⟩ := Mem.sl hm (s := 0) rfl; simp only [SV.vals, SV.val, q0]; exact indexOff_ok fuel s W A0 c0 l0 s0 r1 e1⟩, trivial⟩ ?_
  clear S; intro E a w S
  refine wp_ret ?_
  have h := Option.some.inj h
  subst h
  exact sym_ret lay_ok [.v (.bool (decide (0 ≤ r1)))] (by kernel_rfl) rfl S ⟨rfl, S.below rfl⟩
def stream_validRoom_R (room : List Int) : List (Nat × Q) := [(0, (iQZ room))]
def stream_validRoom (fuel : Nat) (room : List Int) : Option Bool :=
((bif (decide (((room.length : Nat) : Int) ≤ 168)) then anyOff fuel room else some default)).bind fun (r1 : Bool) =>
some (decide (((room.length : Nat) : Int) ≤ 168) && (!r1))
set_option maxRecDepth 100000 in
set_option maxHeartbeats 4000000 in
theorem stream_validRoom_ok (fuel : Nat) (room : List Int) (W : World) (A0 : Option Addr) (c0 : Nat) (h0 : room.length ≤ c0) (s0 : SlAt W A0 room.length 1 fun i => [.int .i64 (room.getD i default)]) (res : Bool) (h : stream_validRoom fuel room = some res) :
    Calls Go.Proofs.Try.prog 47 #[.slice A0 room.length c0] W fun e w' => e = .returned (.bool res) ∧ Below W.heap.size W w' := by
  refine sym_call (f := 47) (fn := Go.Proofs.Try.f47) (c := Go.Proofs.Try.f47.body.get rfl) Go.Proofs.Try.func47 rfl [.sl 0] (stream_validRoom_R room) [] (envOf [(0, ⟨A0, room.length, c0, 1⟩)]) allR (fun _ _ => rfl) (by kernel_rfl) (envOf_one trivial) ⟨s0.rd h0, trivial⟩ (AllRR.all _ _) trivial fun E a w S => ?_
  rw [stream_validRoom] at h
  refine sym_seq lay_ok mixed [] [0] [] (⟨[(0, .sl 0)], ⟨[], (stream_validRoom_R room), []⟩⟩) [] S (by kernel_rfl) (by kernel_rfl) (by kernel_rfl) trivial ?_
  clear S; intro E a w S
  obtain ⟨r1, e1, h⟩ := bind_some h
  refine sym_seq lay_ok mixed [(4, { og := true }), (5, { og := true, res := .v (.bool r1) }), (6, { og := true }), (7, { pk := true })] [2] [] (⟨[(2, .v (.bool (decide (((room.length : Nat) : Int) ≤ 168) && (!r1))))], ⟨[], (stream_validRoom_R room), []⟩⟩) [.imp (decide (((room.length : Nat) : Int) ≤ 168)) (decide (((room.length : Nat) : Int) ≤ 168)), .when (decide (((room.length : Nat) : Int) ≤ 168)) (.call ⟨[], (stream_validRoom_R room), []⟩ 59 [.sl 0, .v (.func (.func 60) #[] #[])] (.v (.bool r1))), .imp (decide (((room.length : Nat) : Int) ≤ 168)) (decide (((room.length : Nat) : Int) ≤ 168)), .imp (decide (((room.length : Nat) : Int) ≤ 168)) (decide (((room.length : Nat) : Int) ≤ 168))] S (by kernel_rfl) (by kernel_rfl) (by kernel_rfl) ⟨fun h => h, fun hW => ⟨enters_59, fun E W _ hm => by obtain ⟨A0, c0, q0, l0, s0, _⟩ := Mem.sl hm (s := 0) rfl; simp only [SV.vals, SV.val, q0]; exact anyOff_ok fuel room W A0 c0 l0 s0 r1 (bif_t hW e1)⟩, fun h => h, fun h => h, trivial⟩ ?_
  clear S; intro E a w S
  refine wp_ret ?_
  have h := Option.some.inj h
  subst h
  exact sym_ret lay_ok [.v (.bool (decide (((room.length : Nat) : Int) ≤ 168) && (!r1)))] (by kernel_rfl) rfl S ⟨rfl, S.below rfl⟩
def stream_hours_start_k1  (x1 : Unit) : Option (Int × Bool) :=
some (0, false)
def stream_hours_start_l1 (free : List Int) (b : MBurner) (by' : Int) : Nat → (Int × Int) → Option (Lp Unit (Int × Bool))
  | 0, _ => none
  | n + 1, b1 =>
    (bif decide (b1.2 < (min b.due by')) then
    (grd (((0 : Int) ≤ b1.2 ∧ (b1.2 : Int) < 168)) <|
    (bif decide ((free.getD (Int.toNat b1.2) 0) < b.heat) then
    (grd (InI64 (b1.2 + 1)) <|
    grd (InI64 (b1.2 + 1)) <|
    stream_hours_start_l1 free b by' n ((b1.2 + 1), (b1.2 + 1)))
    else
    (grd (InI64 (b1.2 - b1.1) ∧ InI64 ((b1.2 - b1.1) + 1)) <|
    (bif (((b1.2 - b1.1) + 1) == b.hours) then
    (some (Lp.ret (b1.1, true)))
    else
    (grd (InI64 (b1.2 + 1)) <|
    stream_hours_start_l1 free b by' n (b1.1, (b1.2 + 1)))))))
    else
    (some (Lp.done ())))
def stream_hours_start (fuel : Nat) (free : List Int) (b : MBurner) (from' : Int) (by' : Int) : Option (Int × Bool) :=
(stream_hours_start_l1 free b by' fuel (from', from')).bind fun lr1 => lr1.go fun x1 => stream_hours_start_k1 x1
set_option maxRecDepth 100000 in
set_option maxHeartbeats 4000000 in
theorem stream_hours_start_ok (fuel : Nat) (free : List Int) (b : MBurner) (from' : Int) (by' : Int) (W : World)  (res : Int × Bool) (h : stream_hours_start fuel free b from' by' = some res) :
    Calls Go.Proofs.Try.prog 62 #[.agg (arrV free), .agg #[.int .i64 b.ready, .int .i64 b.due, .int .i64 b.hours, .int .i64 b.heat], .int .i64 from', .int .i64 by'] W fun e w' => e = .returned (.tuple #[.int .i64 res.1, .bool res.2]) ∧ Below W.heap.size W w' := by
  rw [← arr_valsA (envOf []) free]
  refine sym_call (f := 62) (fn := Go.Proofs.Try.f62) (c := Go.Proofs.Try.f62.body.get rfl) Go.Proofs.Try.func62 rfl [.agg (arrSV free), .agg [iv (b.ready), iv (b.due), iv (b.hours), iv (b.heat)], iv (from'), iv (by')] [] [] (envOf []) allR (fun _ _ => rfl) (by kernel_rfl) (envOf_one trivial) trivial (AllRR.all _ _) trivial fun E a w S => ?_
  rw [stream_hours_start] at h
  refine sym_seq lay_ok mixed [(0, { g := 0 }), (1, { g := 1 })] [2, 3, 4, 5] [0, 1] (⟨[(2, iv (from')), (3, iv (by')), (4, .own 0 0), (5, .own 1 0)], ⟨[(0, .blk 85 (arrSV free)), (1, .blk 67 [iv (b.ready), iv (b.due), iv (b.hours), iv (b.heat)])], [], []⟩⟩) [] S (by kernel_rfl) (by kernel_rfl) (by kernel_rfl) trivial ?_
  clear S; intro E a w S
  refine sym_seq lay_ok mixed [] [2, 3, 4, 5, 8] [0, 1] (⟨[(2, iv (from')), (3, iv (by')), (4, .own 0 0), (5, .own 1 0), (8, iv (from'))], ⟨[(0, .blk 85 (arrSV free)), (1, .blk 67 [iv (b.ready), iv (b.due), iv (b.hours), iv (b.heat)])], [], []⟩⟩) [] S (by kernel_rfl) (by kernel_rfl) (by kernel_rfl) trivial ?_
  clear S; intro E a w S
  refine wp_seq ?_
  refine sym_seq lay_ok mixed [] [3, 4, 5, 8, 10] [0, 1] (⟨[(3, iv (by')), (4, .own 0 0), (5, .own 1 0), (8, iv (from')), (10, iv (from'))], ⟨[(0, .blk 85 (arrSV free)), (1, .blk 67 [iv (b.ready), iv (b.due), iv (b.hours), iv (b.heat)])], [], []⟩⟩) [] S (by kernel_rfl) (by kernel_rfl) (by kernel_rfl) trivial ?_
  clear S; intro E a w S
  obtain ⟨lr1, e1, hp1⟩ := bind_some h
  clear h
  refine sym_block_last (G := fun a w => ∃ E, ∃ x1 : Unit, stream_hours_start_k1 x1 = some res ∧ St ⟨W, noC, Go.Proofs.Try.f62.ntmps, [], allR, noρ, (envOf []).sl, (envOf []).x⟩ (⟨[], ⟨[], [], []⟩⟩) E a w) ?_ ?_
  · refine wp_loop_rounds fuel ?_
    refine sym_rounds (F := fun n b1 => stream_hours_start_l1 free b by' n b1 = some lr1) (H := fun b1 => ⟨[(3, iv (by')), (4, .own 0 0), (5, .own 1 0), (8, iv (b1.1)), (10, iv (b1.2))], ⟨[(0, .blk 85 (arrSV free)), (1, .blk 67 [iv (b.ready), iv (b.due), iv (b.hours), iv (b.heat)])], [], []⟩⟩) (from', from') (fun b hb => by have hb : none = some lr1 := hb; cases hb) ?_ _ _ _ _ e1 (St.cast (P := Go.Proofs.Try.prog) [] [] [3, 4, 5, 8, 10] [0, 1] [] _ [] (by kernel_rfl) trivial S)
    clear e1 S
    intro n b1 E a w h ih S
    rw [stream_hours_start_l1] at h
    refine wp_seq ?_
    refine sym_seq lay_ok mixed [] [3, 4, 5, 8, 10, 18] [0, 1] (⟨[(3, iv (by')), (4, .own 0 0), (5, .own 1 0), (8, iv (b1.1)), (10, iv (b1.2)), (18, .v (.bool (decide (b1.2 < (min b.due by')))))], ⟨[(0, .blk 85 (arrSV free)), (1, .blk 67 [iv (b.ready), iv (b.due), iv (b.hours), iv (b.heat)])], [], []⟩⟩) [] S (by kernel_rfl) (by kernel_rfl) (by kernel_rfl) trivial ?_
    clear S; intro E a w S
    refine sym_if_last (b := decide (b1.2 < (min b.due by'))) S rfl (fun hb1 => ?_) (fun hb1 => ?_)
    · have h := bif_t hb1 h
      refine wp_skip ?_
      refine out_then_normal ?_
      refine wp_seq ?_
      refine wp_block ?_
      obtain ⟨g1, h⟩ := grd_some h
      refine sym_seq lay_ok mixed [(1, { px := some (.own 0 (Int.toNat b1.2)) }), (2, { fp := [0], px := some (iv ((free.getD (Int.toNat b1.2) 0))) })] [3, 4, 5, 8, 10, 26] [0, 1] (⟨[(3, iv (by')), (4, .own 0 0), (5, .own 1 0), (8, iv (b1.1)), (10, iv (b1.2)), (26, .v (.bool (decide ((free.getD (Int.toNat b1.2) 0) < b.heat))))], ⟨[(0, .blk 85 (arrSV free)), (1, .blk 67 [iv (b.ready), iv (b.due), iv (b.hours), iv (b.heat)])], [], []⟩⟩) [.pure ⟨[], [], []⟩ (.indexAddr 85 (.tmp 4) (.tmp 21)) [.own 0 0, iv (b1.2)] (.own 0 (Int.toNat b1.2)), .pure ⟨[(0, .blk 85 (arrSV free))], [], []⟩ (.load 3 (.tmp 22)) [.own 0 (Int.toNat b1.2)] (iv ((free.getD (Int.toNat b1.2) 0)))] S (by kernel_rfl) (by kernel_rfl) (by kernel_rfl) ⟨pure_idx lay_ok rfl g1, pure_ldIdx lay_ok rfl rfl rfl rfl g1, trivial⟩ ?_
      clear S; intro E a w S
      refine sym_if_last (b := decide ((free.getD (Int.toNat b1.2) 0) < b.heat)) S rfl (fun hb2 => ?_) (fun hb2 => ?_)
      · have h := bif_t hb2 h
        obtain ⟨g2, h⟩ := grd_some h
        refine sym_last lay_ok mixed [] [3, 4, 5, 8, 10] [0, 1] (⟨[(3, iv (by')), (4, .own 0 0), (5, .own 1 0), (8, iv ((b1.2 + 1))), (10, iv (b1.2))], ⟨[(0, .blk 85 (arrSV free)), (1, .blk 67 [iv (b.ready), iv (b.due), iv (b.hours), iv (b.heat)])], [], []⟩⟩) [.rng .i64 (b1.2 + 1)] S (by kernel_rfl) (by kernel_rfl) (by kernel_rfl) ⟨rngI64 g2, trivial⟩ ?_
        clear S; intro E a w S
        refine out_block_normal ?_
        refine out_then_normal ?_
        obtain ⟨g3, h⟩ := grd_some h
        refine sym_last lay_ok mixed [] [3, 4, 5, 8, 10] [0, 1] (⟨[(3, iv (by')), (4, .own 0 0), (5, .own 1 0), (8, iv ((b1.2 + 1))), (10, iv ((b1.2 + 1)))], ⟨[(0, .blk 85 (arrSV free)), (1, .blk 67 [iv (b.ready), iv (b.due), iv (b.hours), iv (b.heat)])], [], []⟩⟩) [.rng .i64 (b1.2 + 1)] S (by kernel_rfl) (by kernel_rfl) (by kernel_rfl) ⟨rngI64 g3, trivial⟩ ?_
        clear S; intro E a w S
        refine out_then_normal ?_
        exact ih ((b1.2 + 1), (b1.2 + 1)) _ _ _ h (St.cast (P := Go.Proofs.Try.prog) [] [] [3, 4, 5, 8, 10] [0, 1] [] _ [] (by kernel_rfl) trivial S)
      · have h := bif_f hb2 h
        obtain ⟨⟨g4, g5⟩, h⟩ := grd_some h
        refine sym_seq lay_ok mixed [] [3, 4, 5, 8, 10, 35] [0, 1] (⟨[(3, iv (by')), (4, .own 0 0), (5, .own 1 0), (8, iv (b1.1)), (10, iv (b1.2)), (35, .v (.bool (((b1.2 - b1.1) + 1) == b.hours)))], ⟨[(0, .blk 85 (arrSV free)), (1, .blk 67 [iv (b.ready), iv (b.due), iv (b.hours), iv (b.heat)])], [], []⟩⟩) [.rng .i64 (b1.2 - b1.1), .rng .i64 ((b1.2 - b1.1) + 1)] S (by kernel_rfl) (by kernel_rfl) (by kernel_rfl) ⟨rngI64 g4, rngI64 g5, trivial⟩ ?_
        clear S; intro E a w S
        refine sym_if_last (b := (((b1.2 - b1.1) + 1) == b.hours)) S rfl (fun hb3 => ?_) (fun hb3 => ?_)
        · have h := bif_t hb3 h
          refine sym_seq lay_ok mixed [] [8, 9] [] (⟨[(8, iv (b1.1)), (9, .v (.bool true))], ⟨[], [], []⟩⟩) [] S (by kernel_rfl) (by kernel_rfl) (by kernel_rfl) trivial ?_
          clear S; intro E a w S
          refine wp_ret ?_
          refine out_block_ret ?_
          refine out_then_ret ?_
          refine out_then_ret ?_
          refine out_block_ret ?_
          refine out_then_ret ?_
          refine out_then_ret ?_
          have hr := Option.some.inj h
          subst hr
          have hr := Option.some.inj hp1
          subst hr
          exact sym_ret lay_ok [iv (b1.1), .v (.bool true)] (by kernel_rfl) rfl S ⟨rfl, S.below rfl⟩
        · have h := bif_f hb3 h
          refine wp_skip ?_
          refine out_block_normal ?_
          refine out_then_normal ?_
          obtain ⟨g6, h⟩ := grd_some h
          refine sym_last lay_ok mixed [] [3, 4, 5, 8, 10] [0, 1] (⟨[(3, iv (by')), (4, .own 0 0), (5, .own 1 0), (8, iv (b1.1)), (10, iv ((b1.2 + 1)))], ⟨[(0, .blk 85 (arrSV free)), (1, .blk 67 [iv (b.ready), iv (b.due), iv (b.hours), iv (b.heat)])], [], []⟩⟩) [.rng .i64 (b1.2 + 1)] S (by kernel_rfl) (by kernel_rfl) (by kernel_rfl) ⟨rngI64 g6, trivial⟩ ?_
          clear S; intro E a w S
          refine out_then_normal ?_
          exact ih (b1.1, (b1.2 + 1)) _ _ _ h (St.cast (P := Go.Proofs.Try.prog) [] [] [3, 4, 5, 8, 10] [0, 1] [] _ [] (by kernel_rfl) trivial S)
    · have h := bif_f hb1 h
      refine wp_exit ?_
      refine out_then_exit ?_
      refine out_then_exit ?_
      refine out_block_here ?_
      refine out_then_normal ?_
      have hr := Option.some.inj h
      subst hr
      exact ⟨_, (), hp1, St.cast (P := Go.Proofs.Try.prog) [] [] [] [] [] _ [] (by kernel_rfl) trivial S⟩
  clear e1 S
  rintro a w ⟨E, x1, h, S⟩
  rw [stream_hours_start_k1] at h
  refine out_then_normal ?_
  refine sym_seq lay_ok mixed [] [8, 9] [] (⟨[(8, iv (0)), (9, .v (.bool false))], ⟨[], [], []⟩⟩) [] S (by kernel_rfl) (by kernel_rfl) (by kernel_rfl) trivial ?_
  clear S; intro E a w S
  refine wp_ret ?_
  have h := Option.some.inj h
  subst h
  exact sym_ret lay_ok [iv (0), .v (.bool false)] (by kernel_rfl) rfl S ⟨rfl, S.below rfl⟩
def stream_hours_without_k1  (x1 : List Int) : Option (List Int) :=
some x1
def stream_hours_without_l1 (b : MBurner) (start : Int) : Nat → (Int × List Int) → Option (Lp (List Int) (List Int))
  | 0, _ => none
  | n + 1, b1 =>
    (bif decide (b1.1 < b.hours) then
    (grd (InI64 (start + b1.1) ∧ ((0 : Int) ≤ (start + b1.1) ∧ ((start + b1.1) : Int) < 168) ∧ InI64 ((b1.2.getD (Int.toNat (start + b1.1)) 0) - b.heat) ∧ ((0 : Int) ≤ (start + b1.1) ∧ ((start + b1.1) : Int) < 168)) <|
    grd (InI64 (b1.1 + 1)) <|
    stream_hours_without_l1 b start n ((b1.1 + 1), (arrUp b1.2 (Int.toNat (start + b1.1)) ((b1.2.getD (Int.toNat (start + b1.1)) 0) - b.heat))))
    else
    (some (Lp.done b1.2)))
def stream_hours_without (fuel : Nat) (free : List Int) (b : MBurner) (start : Int) : Option (List Int) :=
(stream_hours_without_l1 b start fuel (0, free)).bind fun lr1 => lr1.go fun x1 => stream_hours_without_k1 x1
set_option maxRecDepth 100000 in
set_option maxHeartbeats 4000000 in
theorem stream_hours_without_ok (fuel : Nat) (free : List Int) (b : MBurner) (start : Int) (W : World)  (res : List Int) (h : stream_hours_without fuel free b start = some res) :
    Calls Go.Proofs.Try.prog 63 #[.agg (arrV free), .agg #[.int .i64 b.ready, .int .i64 b.due, .int .i64 b.hours, .int .i64 b.heat], .int .i64 start] W fun e w' => e = .returned (.agg (arrV res)) ∧ Below W.heap.size W w' := by
  rw [← arr_valsA (envOf []) free]
  refine sym_call (f := 63) (fn := Go.Proofs.Try.f63) (c := Go.Proofs.Try.f63.body.get rfl) Go.Proofs.Try.func63 rfl [.agg (arrSV free), .agg [iv (b.ready), iv (b.due), iv (b.hours), iv (b.heat)], iv (start)] [] [] (envOf []) allR (fun _ _ => rfl) (by kernel_rfl) (envOf_one trivial) trivial (AllRR.all _ _) trivial fun E a w S => ?_
  rw [stream_hours_without] at h
  refine sym_seq lay_ok mixed [(0, { g := 0 }), (1, { g := 1 }), (2, { g := 2 })] [2, 3, 4, 6] [0, 1, 2] (⟨[(2, iv (start)), (3, .own 0 0), (4, .own 1 0), (6, .own 2 0)], ⟨[(0, .blk 85 (arrSV free)), (1, .blk 67 [iv (b.ready), iv (b.due), iv (b.hours), iv (b.heat)]), (2, .blk 85 (arrSV (List.replicate 168 0)))], [], []⟩⟩) [] S (by kernel_rfl) (by kernel_rfl) (by kernel_rfl) trivial ?_
  clear S; intro E a w S
  refine wp_seq ?_
  refine sym_seq lay_ok mixed [] [2, 3, 4, 6, 9, 10] [0, 1, 2] (⟨[(2, iv (start)), (3, .own 0 0), (4, .own 1 0), (6, .own 2 0), (9, iv (b.hours)), (10, iv (0))], ⟨[(0, .blk 85 (arrSV free)), (1, .blk 67 [iv (b.ready), iv (b.due), iv (b.hours), iv (b.heat)]), (2, .blk 85 (arrSV (List.replicate 168 0)))], [], []⟩⟩) [] S (by kernel_rfl) (by kernel_rfl) (by kernel_rfl) trivial ?_
  clear S; intro E a w S
  obtain ⟨lr1, e1, hp1⟩ := bind_some h
  clear h
  refine sym_block_last (G := fun a w => ∃ E, ∃ x1 : List Int, stream_hours_without_k1 x1 = some res ∧ St ⟨W, noC, Go.Proofs.Try.f63.ntmps, [], allR, noρ, (envOf []).sl, (envOf []).x⟩ (⟨[(3, .own 0 0), (6, .own 2 0)], ⟨[(0, .blk 85 (arrSV x1)), (2, .blk 85 (arrSV (List.replicate 168 0)))], [], []⟩⟩) E a w) ?_ ?_
  · refine wp_loop_rounds fuel ?_
    refine sym_rounds (F := fun n b1 => stream_hours_without_l1 b start n b1 = some lr1) (H := fun b1 => ⟨[(2, iv (start)), (3, .own 0 0), (4, .own 1 0), (6, .own 2 0), (9, iv (b.hours)), (10, iv (b1.1))], ⟨[(0, .blk 85 (arrSV b1.2)), (1, .blk 67 [iv (b.ready), iv (b.due), iv (b.hours), iv (b.heat)]), (2, .blk 85 (arrSV (List.replicate 168 0)))], [], []⟩⟩) (0, free) (fun b hb => by have hb : none = some lr1 := hb; cases hb) ?_ _ _ _ _ e1 (St.cast (P := Go.Proofs.Try.prog) [] [] [2, 3, 4, 6, 9, 10] [0, 1, 2] [] _ [] (by kernel_rfl) trivial S)
    clear e1 S
    intro n b1 E a w h ih S
    rw [stream_hours_without_l1] at h
    refine sym_seq lay_ok mixed [] [2, 3, 4, 6, 9, 10, 11] [0, 1, 2] (⟨[(2, iv (start)), (3, .own 0 0), (4, .own 1 0), (6, .own 2 0), (9, iv (b.hours)), (10, iv (b1.1)), (11, .v (.bool (decide (b1.1 < b.hours))))], ⟨[(0, .blk 85 (arrSV b1.2)), (1, .blk 67 [iv (b.ready), iv (b.due), iv (b.hours), iv (b.heat)]), (2, .blk 85 (arrSV (List.replicate 168 0)))], [], []⟩⟩) [] S (by kernel_rfl) (by kernel_rfl) (by kernel_rfl) trivial ?_
    clear S; intro E a w S
    refine sym_if (b := decide (b1.1 < b.hours)) S rfl (fun hb1 => ?_) (fun hb1 => ?_)
    · have h := bif_t hb1 h
      refine wp_skip ?_
      refine out_then_normal ?_
      refine wp_seq ?_
      refine wp_block ?_
      refine sym_seq lay_ok mixed [] [2, 3, 4, 6, 9, 10, 7] [0, 1, 2] (⟨[(2, iv (start)), (3, .own 0 0), (4, .own 1 0), (6, .own 2 0), (9, iv (b.hours)), (10, iv (b1.1)), (7, iv (b1.1))], ⟨[(0, .blk 85 (arrSV b1.2)), (1, .blk 67 [iv (b.ready), iv (b.due), iv (b.hours), iv (b.heat)]), (2, .blk 85 (arrSV (List.replicate 168 0)))], [], []⟩⟩) [] S (by kernel_rfl) (by kernel_rfl) (by kernel_rfl) trivial ?_
      clear S; intro E a w S
      obtain ⟨⟨g1, g2, g3, g4⟩, h⟩ := grd_some h
      refine sym_region_cutP lay_ok mixed [(3, { px := some (.own 0 (Int.toNat (start + b1.1))) }), (4, { fp := [0], px := some (iv ((b1.2.getD (Int.toNat (start + b1.1)) 0))) }), (8, { px := some (.own 0 (Int.toNat (start + b1.1))) })] 9 [2, 3, 4, 6, 9, 10, 20, 21] [0, 1, 2] (⟨[(2, iv (start)), (3, .own 0 0), (4, .own 1 0), (6, .own 2 0), (9, iv (b.hours)), (10, iv (b1.1)), (20, iv (((b1.2.getD (Int.toNat (start + b1.1)) 0) - b.heat))), (21, .own 0 (Int.toNat (start + b1.1)))], ⟨[(0, .blk 85 (arrSV b1.2)), (1, .blk 67 [iv (b.ready), iv (b.due), iv (b.hours), iv (b.heat)]), (2, .blk 85 (arrSV (List.replicate 168 0)))], [], []⟩⟩) [.rng .i64 (start + b1.1), .pure ⟨[], [], []⟩ (.indexAddr 85 (.tmp 3) (.tmp 15)) [.own 0 0, iv ((start + b1.1))] (.own 0 (Int.toNat (start + b1.1))), .pure ⟨[(0, .blk 85 (arrSV b1.2))], [], []⟩ (.load 3 (.tmp 16)) [.own 0 (Int.toNat (start + b1.1))] (iv ((b1.2.getD (Int.toNat (start + b1.1)) 0))), .rng .i64 ((b1.2.getD (Int.toNat (start + b1.1)) 0) - b.heat), .pure ⟨[], [], []⟩ (.indexAddr 85 (.tmp 3) (.tmp 15)) [.own 0 0, iv ((start + b1.1))] (.own 0 (Int.toNat (start + b1.1)))] S (by kernel_rfl) (by kernel_rfl) (by kernel_rfl) ⟨rngI64 g1, pure_idx lay_ok rfl g2, pure_ldIdx lay_ok rfl rfl rfl rfl g2, rngI64 g3, pure_idx lay_ok rfl g4, trivial⟩ (by intro c d v a w h; cases d <;> exact h) ?_
      clear S; intro E a w S
      refine sym_storeArr lay_ok rfl (.tmp 21) (.tmp 20) 3 rfl rfl rfl S 0 85 (start + b1.1) b1.2 ((b1.2.getD (Int.toNat (start + b1.1)) 0) - b.heat) ⟨.int .i64, 1, [.int .i64 0], false, 8⟩ rfl rfl rfl rfl rfl g4 ?_
      clear S; intro a w S; have S := St.pickG S [2, 3, 4, 6, 9, 10] [0, 1, 2] [] (⟨[(2, iv (start)), (3, .own 0 0), (4, .own 1 0), (6, .own 2 0), (9, iv (b.hours)), (10, iv (b1.1))], ⟨[(0, .blk 85 (arrSV (arrUp b1.2 (Int.toNat (start + b1.1)) ((b1.2.getD (Int.toNat (start + b1.1)) 0) - b.heat)))), (1, .blk 67 [iv (b.ready), iv (b.due), iv (b.hours), iv (b.heat)]), (2, .blk 85 (arrSV (List.replicate 168 0)))], [], []⟩⟩) (by kernel_rfl)
      refine sym_done rfl ?_
      have S := St.pickG S [2, 3, 4, 6, 9, 10] [0, 1, 2] [] (⟨[(2, iv (start)), (3, .own 0 0), (4, .own 1 0), (6, .own 2 0), (9, iv (b.hours)), (10, iv (b1.1))], ⟨[(0, .blk 85 (arrSV (arrUp b1.2 (Int.toNat (start + b1.1)) ((b1.2.getD (Int.toNat (start + b1.1)) 0) - b.heat)))), (1, .blk 67 [iv (b.ready), iv (b.due), iv (b.hours), iv (b.heat)]), (2, .blk 85 (arrSV (List.replicate 168 0)))], [], []⟩⟩) (by kernel_rfl)
      refine out_block_normal ?_
      refine out_then_normal ?_
      obtain ⟨g5, h⟩ := grd_some h
      refine sym_last lay_ok mixed [] [2, 3, 4, 6, 9, 10] [0, 1, 2] (⟨[(2, iv (start)), (3, .own 0 0), (4, .own 1 0), (6, .own 2 0), (9, iv (b.hours)), (10, iv ((b1.1 + 1)))], ⟨[(0, .blk 85 (arrSV (arrUp b1.2 (Int.toNat (start + b1.1)) ((b1.2.getD (Int.toNat (start + b1.1)) 0) - b.heat)))), (1, .blk 67 [iv (b.ready), iv (b.due), iv (b.hours), iv (b.heat)]), (2, .blk 85 (arrSV (List.replicate 168 0)))], [], []⟩⟩) [.rng .i64 (b1.1 + 1)] S (by kernel_rfl) (by kernel_rfl) (by kernel_rfl) ⟨rngI64 g5, trivial⟩ ?_
      clear S; intro E a w S
      refine out_then_normal ?_
      exact ih ((b1.1 + 1), (arrUp b1.2 (Int.toNat (start + b1.1)) ((b1.2.getD (Int.toNat (start + b1.1)) 0) - b.heat))) _ _ _ h (St.cast (P := Go.Proofs.Try.prog) [] [] [2, 3, 4, 6, 9, 10] [0, 1, 2] [] _ [] (by kernel_rfl) trivial S)
    · have h := bif_f hb1 h
      refine wp_exit ?_
      refine out_then_exit ?_
      refine out_then_exit ?_
      refine out_block_here ?_
      refine out_then_normal ?_
      have hr := Option.some.inj h
      subst hr
      exact ⟨_, b1.2, hp1, St.cast (P := Go.Proofs.Try.prog) [] [] [3, 6] [0, 2] [] _ [] (by kernel_rfl) trivial S⟩
  clear e1 S
  rintro a w ⟨E, x1, h, S⟩
  rw [stream_hours_without_k1] at h
  refine out_then_normal ?_
  refine sym_seq lay_ok mixed [] [6] [2] (⟨[(6, .own 2 0)], ⟨[(2, .blk 85 (arrSV x1))], [], []⟩⟩) [] S (by kernel_rfl) (by kernel_rfl) (by kernel_rfl) trivial ?_
  clear S; intro E a w S
  refine wp_ret ?_
  have h := Option.some.inj h
  subst h
  exact sym_ret lay_ok [.agg (arrSV x1)] (by kernel_rfl) rfl S ⟨congrArg (fun x => Ending.returned (.agg x)) (arr_valsA _ _), S.below rfl⟩
end Go.Proofs.Ytlcccomdijdkaaa
namespace Go.Proofs.Ytlcccomdijdkaaa
open Go.RowKit Go.Proofs.Try

abbrev bCells (x : MBurner) : List Value := [.int .i64 x.ready, .int .i64 x.due, .int .i64 x.hours, .int .i64 x.heat]
abbrev bQ (l : List MBurner) : Q := ⟨l.length, 4, fun i => bCells (l.getD i default)⟩
abbrev bGQ0 : GQ := ⟨67, 4, 0, []⟩
abbrev noR : Nat → Prop := fun _ => False
def growM (n : Int) : Option Unit :=
(bif decide (n < 0) then
(none)
else
(grd (InI64 (0 - 0) ∧ InI64 (n - (0 - 0))) <|
(bif decide (0 < (n - (0 - 0))) then
(grd (((0 : Int) < (n - (0 - 0)) ∧ ((n - (0 - 0)) : Int) ≤ 1000000)) <|
some ())
else
(some ()))))
set_option maxRecDepth 100000 in
set_option maxHeartbeats 4000000 in
theorem growM_ok (n : Int) (W : World) (res : Unit) (h : growM n = some res) : Calls Go.Proofs.Try.prog 69 #[.slice none 0 0, .int .i64 n] W fun e w' => ∃ u, e = .returned u ∧ Below W.heap.size W w' ∧ u.oneCell' = true ∧ HeldIn (fun k => W.heap.size ≤ k) w' (RowNew W.heap.size 0 bGQ0 fun _ => u) := by
  refine sym_call (f := 69) (fn := Go.Proofs.Try.f69) (c := Go.Proofs.Try.f69.body.get rfl) Go.Proofs.Try.func69 rfl [.v (.slice none 0 0), iv (n)] [] [] (envOf []) noR (fun _ _ => rfl) (by kernel_rfl) (envOf_one trivial) trivial trivial trivial fun E a w S => ?_
  rw [growM] at h
  refine sym_seq lay_ok mixed [] [0, 1] [] (⟨[(0, .v (.slice none 0 0)), (1, iv (n))], ⟨[], [], []⟩⟩) [] S (by kernel_rfl) (by kernel_rfl) (by kernel_rfl) trivial ?_
  clear S; intro E a w S
  refine wp_seq ?_
  refine sym_seq lay_ok mixed [] [0, 1, 6] [] (⟨[(0, .v (.slice none 0 0)), (1, iv (n)), (6, .v (.bool (decide (n < 0))))], ⟨[], [], []⟩⟩) [] S (by kernel_rfl) (by kernel_rfl) (by kernel_rfl) trivial ?_
  clear S; intro E a w S
  refine sym_if_last (b := decide (n < 0)) S rfl (fun hb1 => ?_) (fun hb1 => ?_)
  · have h := bif_t hb1 h
    cases h
  · have h := bif_f hb1 h
    refine wp_skip ?_
    refine out_then_normal ?_
    refine wp_seq ?_
    obtain ⟨⟨g1, g2⟩, h⟩ := grd_some h
    refine sym_seq lay_ok mixed [(2, { px := some (iv (0)) })] [0, 1] [] (⟨[(0, .v (.slice none 0 0)), (1, iv ((n - (0 - 0))))], ⟨[], [], []⟩⟩) [.pure ⟨[], [], []⟩ (.call ⟨.builtin .cap, #[.tmp 9], #[42]⟩) [.v (.slice none 0 0)] (iv (0)), .rng .i64 (0 - 0), .rng .i64 (n - (0 - 0))] S (by kernel_rfl) (by kernel_rfl) (by kernel_rfl) ⟨pure_capNil lay_ok rfl, rngI64 g1, rngI64 g2, trivial⟩ ?_
    clear S; intro E a w S
    refine sym_seq lay_ok mixed [] [0, 1, 16] [] (⟨[(0, .v (.slice none 0 0)), (1, iv ((n - (0 - 0)))), (16, .v (.bool (decide (0 < (n - (0 - 0))))))], ⟨[], [], []⟩⟩) [] S (by kernel_rfl) (by kernel_rfl) (by kernel_rfl) trivial ?_
    clear S; intro E a w S
    refine sym_if_last (b := decide (0 < (n - (0 - 0)))) S rfl (fun hb2 => ?_) (fun hb2 => ?_)
    · have h := bif_t hb2 h
      obtain ⟨g3, h⟩ := grd_some h
      refine sym_last lay_ok mixed [(2, { px := some (iv (0)) }), (3, { px := some (.v (.slice none 0 0)) }), (5, { g := 0, hx := some (ZRow ⟨67, 4, 0, []⟩ (Int.toNat (n - (0 - 0)))), px := some (.ltr 0 0) }), (8, { fp := [0], px := some (.ltr 0 1) })] [0] [0] (⟨[(0, .ltr 0 1)], ⟨[(0, .held (ZRow ⟨67, 4, 0, []⟩ (Int.toNat (n - (0 - 0)))))], [], []⟩⟩) [.pure ⟨[], [], []⟩ (.call ⟨.builtin .cap, #[.tmp 18], #[42]⟩) [.v (.slice none 0 0)] (iv (0)), .pure ⟨[], [], []⟩ (.slice 42 (.tmp 17) none (some (.tmp 19)) none) [.v (.slice none 0 0), iv (0)] (.v (.slice none 0 0)), .ext 0 (.call ⟨.builtin .append, #[.tmp 20, .tmp 21], #[42, 3]⟩) [.v (.slice none 0 0), iv ((n - (0 - 0)))] (.ltr 0 0) (ZRow ⟨67, 4, 0, []⟩ (Int.toNat (n - (0 - 0)))), .pure ⟨[(0, .held (ZRow ⟨67, 4, 0, []⟩ (Int.toNat (n - (0 - 0)))))], [], []⟩ (.slice 42 (.tmp 22) none (some (.tmp 24)) none) [.ltr 0 0, iv (0)] (.ltr 0 1)] S (by kernel_rfl) (by kernel_rfl) (by kernel_rfl) ⟨pure_capNil lay_ok rfl, pure_sliceNil lay_ok rfl, zrow_ext (d := ⟨.str [(0, 1, false), (1, 1, false), (2, 1, false), (3, 1, false)], 4, [.int .i64 0, .int .i64 0, .int .i64 0, .int .i64 0], false, 32⟩) lay_ok rfl rfl rfl rfl (show 0 < 4 by decide) (show 32 ≤ 1000 by decide) g3, pure_sliceZ lay_ok rfl rfl, trivial⟩ ?_
      clear S; intro E a w S
      refine out_then_normal ?_
      refine sym_seq lay_ok mixed [] [4] [0] (⟨[(4, .ltr 0 1)], ⟨[(0, .held (ZRow ⟨67, 4, 0, []⟩ (Int.toNat (n - (0 - 0)))))], [], []⟩⟩) [] S (by kernel_rfl) (by kernel_rfl) (by kernel_rfl) trivial ?_
      clear S; intro E a w S
      refine wp_ret ?_
      have h := Option.some.inj h
      subst h
      have hH := (S.sep.held 0 _ rfl).mono (R' := fun k => W.heap.size ≤ k) (fun k _ h => h.2.elim id (fun h => h.elim))
      have hG := hH.imp (fun w h => h.choose_spec.choose_spec.2.2)
      exact sym_ret lay_ok [.ltr 0 1] (by kernel_rfl) rfl S ⟨_, rfl, S.below rfl, S.mem.one 0 1, GrAt.held (v := fun _ => E.x 0 1) hG.out (HeldIn.gr hG (fun _ h => h))⟩
    · have h := bif_f hb2 h
      refine wp_skip ?_
      refine out_then_normal ?_
      refine sym_seq lay_ok mixed [] [4] [] (⟨[(4, .v (.slice none 0 0))], ⟨[], [], []⟩⟩) [] S (by kernel_rfl) (by kernel_rfl) (by kernel_rfl) trivial ?_
      clear S; intro E a w S
      refine wp_ret ?_
      have h := Option.some.inj h
      subst h
      exact sym_ret lay_ok [.v (.slice none 0 0)] (by kernel_rfl) rfl S ⟨_, rfl, S.below rfl, rfl, GrAt.held (v := fun _ => .slice none 0 0) (World.ownsRow_nil _ _ _ _) (fun b hb => by simp [Value.ownBlock] at hb)⟩
def concatM (l1 l2 : List MBurner) : Option (List MBurner) :=
grd (InI64 (0 + ((l1.length : Nat) : Int))) <|
(bif decide ((0 + ((l1.length : Nat) : Int)) < 0) then
(none)
else
(grd (InI64 ((0 + ((l1.length : Nat) : Int)) + ((l2.length : Nat) : Int))) <|
(bif decide (((0 + ((l1.length : Nat) : Int)) + ((l2.length : Nat) : Int)) < 0) then
(none)
else
((growM ((0 + ((l1.length : Nat) : Int)) + ((l2.length : Nat) : Int))).bind fun (r1 : Unit) =>
grd ((([] : List MBurner).length + l1.length ≤ 1000000)) <|
grd (((([] : List MBurner) ++ l1).length + l2.length ≤ 1000000)) <|
some ((([] : List MBurner) ++ l1) ++ l2)))))
set_option maxRecDepth 100000 in
set_option maxHeartbeats 4000000 in
theorem concatM_ok (l1 l2 : List MBurner) (W : World) (b : Nat) (A1 A2 : Option Addr) (c1 c2 : Nat) (hB : Blk W b 42 #[.slice A1 l1.length c1, .slice A2 l2.length c2]) (h1 : l1.length ≤ c1) (s1 : SlAt W A1 l1.length 4 fun i => bCells (l1.getD i default)) (h2 : l2.length ≤ c2) (s2 : SlAt W A2 l2.length 4 fun i => bCells (l2.getD i default)) (res : List MBurner) (h : concatM l1 l2 = some res) :
    Calls Go.Proofs.Try.prog 64 #[.slice (some ⟨b, 0, none⟩) 2 2] W fun e w' => ∃ v : Nat → Value, e = .returned (v 0) ∧ Below W.heap.size W w' ∧ (∀ i, (v i).oneCell' = true) ∧ HeldIn (fun k => W.heap.size ≤ k) w' (SlicesAre 0 [bQ res] v) := by
  have hlt : ∀ s q b9 off, look [(0, bQ l1), (1, bQ l2)] s = some q → 0 < q.len → ((envOf [(0, ⟨A1, l1.length, c1, 4⟩), (1, ⟨A2, l2.length, c2, 4⟩)]).sl s).A = some ⟨b9, off, none⟩ → b9 < W.heap.size := fun s q b9 off hq hl hA => by
    rcases look_cases hq with ⟨rfl, rfl⟩ | ⟨_, h9⟩
    · obtain ⟨b2, o2, hA2, hlt, _⟩ := s1 hl
      have : some (⟨b2, o2, none⟩ : Addr) = some ⟨b9, off, none⟩ := hA2.symm.trans hA
      injection this with e; injection e with e1; omega
    · rcases look_cases h9 with ⟨rfl, rfl⟩ | ⟨_, h9⟩
      · obtain ⟨b2, o2, hA2, hlt, _⟩ := s2 hl
        have : some (⟨b2, o2, none⟩ : Addr) = some ⟨b9, off, none⟩ := hA2.symm.trans hA
        injection this with e; injection e with e1; omega
      · simp [look] at h9
  refine sym_closure (f := 64) (fn := Go.Proofs.Try.f64) (c := Go.Proofs.Try.f64.body.get rfl) Go.Proofs.Try.func64 rfl [.row 1000 0 2 2] [(0, bQ l1), (1, bQ l2)] [(0, ⟨A1, l1.length, c1, 4⟩), (1, ⟨A2, l2.length, c2, 4⟩)] [⟨1000, b, 42, [.sl 0, .sl 1]⟩] [(1000, .blk 42 [.sl 0, .sl 1])] rfl (by kernel_rfl) ⟨hB, trivial⟩ ⟨trivial, trivial⟩ ⟨s1.rd h1, s2.rd h2, trivial⟩ ⟨rd_ne_row hB s1 ⟨_, _, rfl⟩, rd_ne_row hB s2 ⟨_, _, rfl⟩, trivial⟩ fun E a w S => ?_
  rw [concatM] at h
  refine sym_seq lay_ok mixed [] [0] [1000] (⟨[(0, .row 1000 0 2 2)], ⟨[(1000, .blk 42 [.sl 0, .sl 1])], [(0, bQ l1), (1, bQ l2)], []⟩⟩) [] S (by kernel_rfl) (by kernel_rfl) (by kernel_rfl) trivial ?_
  clear S; intro E a w S
  refine sym_seq lay_ok mixed [] [0, 3] [1000] (⟨[(0, .row 1000 0 2 2), (3, iv (0))], ⟨[(1000, .blk 42 [.sl 0, .sl 1])], [(0, bQ l1), (1, bQ l2)], []⟩⟩) [] S (by kernel_rfl) (by kernel_rfl) (by kernel_rfl) trivial ?_
  clear S; intro E a w S
  refine wp_seq ?_
  refine sym_seq lay_ok mixed [] [0, 3, 9, 10, 11] [1000] (⟨[(0, .row 1000 0 2 2), (3, iv (0)), (9, .row 1000 0 2 2), (10, iv (2)), (11, iv (0))], ⟨[(1000, .blk 42 [.sl 0, .sl 1])], [(0, bQ l1), (1, bQ l2)], []⟩⟩) [] S (by kernel_rfl) (by kernel_rfl) (by kernel_rfl) trivial ?_
  clear S; intro E a w S
  refine wp_block ?_
  refine wp_loop_rounds 20 ?_
  rw [show (20 : Nat) = 19 + 1 from rfl, rounds_succ]
  have S := St.pickG S [0, 3, 9, 10, 11] [1000] [] (⟨[(0, .row 1000 0 2 2), (3, iv (0)), (9, .row 1000 0 2 2), (10, iv (2)), (11, iv (0))], ⟨[(1000, .blk 42 [.sl 0, .sl 1])], [(0, bQ l1), (1, bQ l2)], []⟩⟩) (by kernel_rfl)
  refine sym_seq lay_ok mixed [] [0, 3, 9, 10, 11, 12] [1000] (⟨[(0, .row 1000 0 2 2), (3, iv (0)), (9, .row 1000 0 2 2), (10, iv (2)), (11, iv (0)), (12, .v (.bool true))], ⟨[(1000, .blk 42 [.sl 0, .sl 1])], [(0, bQ l1), (1, bQ l2)], []⟩⟩) [] S (by kernel_rfl) (by kernel_rfl) (by kernel_rfl) trivial ?_
  clear S; intro E a w S
  refine sym_if (b := true) S rfl (fun _ => ?_) (fun hb => absurd hb (by decide))
  refine wp_skip ?_
  refine out_then_normal ?_
  refine wp_seq ?_
  refine wp_block ?_
  refine sym_seq lay_ok mixed [(0, { px := some (.own 1000 0) })] [0, 3, 9, 10, 11, 5] [1000] (⟨[(0, .row 1000 0 2 2), (3, iv (0)), (9, .row 1000 0 2 2), (10, iv (2)), (11, iv (0)), (5, .sl 0)], ⟨[(1000, .blk 42 [.sl 0, .sl 1])], [(0, bQ l1), (1, bQ l2)], []⟩⟩) [.pure ⟨[], [(0, bQ l1), (1, bQ l2)], []⟩ (.indexAddr 111 (.tmp 9) (.tmp 11)) [.row 1000 0 2 2, iv (0)] (.own 1000 0)] S (by kernel_rfl) (by kernel_rfl) (by kernel_rfl) ⟨pure_idxRow (j := 0) (es := 1) (e := 42) lay_ok rfl (show 0 < 2 by decide), trivial⟩ ?_
  clear S; intro E a w S
  obtain ⟨g1, h⟩ := grd_some h
  refine sym_seq lay_ok mixed [] [0, 3, 9, 10, 11] [1000] (⟨[(0, .row 1000 0 2 2), (3, iv ((0 + ((l1.length : Nat) : Int)))), (9, .row 1000 0 2 2), (10, iv (2)), (11, iv (0))], ⟨[(1000, .blk 42 [.sl 0, .sl 1])], [(0, bQ l1), (1, bQ l2)], []⟩⟩) [.rng .i64 (0 + ((l1.length : Nat) : Int))] S (by kernel_rfl) (by kernel_rfl) (by kernel_rfl) ⟨rngI64 g1, trivial⟩ ?_
  clear S; intro E a w S
  refine sym_seq lay_ok mixed [] [0, 3, 9, 10, 11, 20] [1000] (⟨[(0, .row 1000 0 2 2), (3, iv ((0 + ((l1.length : Nat) : Int)))), (9, .row 1000 0 2 2), (10, iv (2)), (11, iv (0)), (20, .v (.bool (decide ((0 + ((l1.length : Nat) : Int)) < 0))))], ⟨[(1000, .blk 42 [.sl 0, .sl 1])], [(0, bQ l1), (1, bQ l2)], []⟩⟩) [] S (by kernel_rfl) (by kernel_rfl) (by kernel_rfl) trivial ?_
  clear S; intro E a w S
  refine sym_if_last (b := decide ((0 + ((l1.length : Nat) : Int)) < 0)) S rfl (fun hb1 => ?_) (fun hb1 => ?_)
  · have h := bif_t hb1 h
    cases h
  · have h := bif_f hb1 h
    refine wp_skip ?_
    refine out_block_normal ?_
    refine out_then_normal ?_
    refine sym_last lay_ok mixed [] [0, 3, 9, 10, 11] [1000] (⟨[(0, .row 1000 0 2 2), (3, iv ((0 + ((l1.length : Nat) : Int)))), (9, .row 1000 0 2 2), (10, iv (2)), (11, iv (1))], ⟨[(1000, .blk 42 [.sl 0, .sl 1])], [(0, bQ l1), (1, bQ l2)], []⟩⟩) [.rng .i64 1] S (by kernel_rfl) (by kernel_rfl) (by kernel_rfl) ⟨(by decide : IntKind.i64.wrap 1 = 1), trivial⟩ ?_
    clear S; intro E a w S
    refine out_then_normal ?_
    rw [show (19 : Nat) = 18 + 1 from rfl, rounds_succ]
    have S := St.pickG S [0, 3, 9, 10, 11] [1000] [] (⟨[(0, .row 1000 0 2 2), (3, iv ((0 + ((l1.length : Nat) : Int)))), (9, .row 1000 0 2 2), (10, iv (2)), (11, iv (1))], ⟨[(1000, .blk 42 [.sl 0, .sl 1])], [(0, bQ l1), (1, bQ l2)], []⟩⟩) (by kernel_rfl)
    refine sym_seq lay_ok mixed [] [0, 3, 9, 10, 11, 12] [1000] (⟨[(0, .row 1000 0 2 2), (3, iv ((0 + ((l1.length : Nat) : Int)))), (9, .row 1000 0 2 2), (10, iv (2)), (11, iv (1)), (12, .v (.bool true))], ⟨[(1000, .blk 42 [.sl 0, .sl 1])], [(0, bQ l1), (1, bQ l2)], []⟩⟩) [] S (by kernel_rfl) (by kernel_rfl) (by kernel_rfl) trivial ?_
    clear S; intro E a w S
    refine sym_if (b := true) S rfl (fun _ => ?_) (fun hb => absurd hb (by decide))
    refine wp_skip ?_
    refine out_then_normal ?_
    refine wp_seq ?_
    refine wp_block ?_
    refine sym_seq lay_ok mixed [(0, { px := some (.own 1000 1) })] [0, 3, 9, 10, 11, 5] [1000] (⟨[(0, .row 1000 0 2 2), (3, iv ((0 + ((l1.length : Nat) : Int)))), (9, .row 1000 0 2 2), (10, iv (2)), (11, iv (1)), (5, .sl 1)], ⟨[(1000, .blk 42 [.sl 0, .sl 1])], [(0, bQ l1), (1, bQ l2)], []⟩⟩) [.pure ⟨[], [(0, bQ l1), (1, bQ l2)], []⟩ (.indexAddr 111 (.tmp 9) (.tmp 11)) [.row 1000 0 2 2, iv (1)] (.own 1000 1)] S (by kernel_rfl) (by kernel_rfl) (by kernel_rfl) ⟨pure_idxRow (j := 1) (es := 1) (e := 42) lay_ok rfl (show 1 < 2 by decide), trivial⟩ ?_
    clear S; intro E a w S
    obtain ⟨g2, h⟩ := grd_some h
    refine sym_seq lay_ok mixed [] [0, 3, 9, 10, 11] [1000] (⟨[(0, .row 1000 0 2 2), (3, iv (((0 + ((l1.length : Nat) : Int)) + ((l2.length : Nat) : Int)))), (9, .row 1000 0 2 2), (10, iv (2)), (11, iv (1))], ⟨[(1000, .blk 42 [.sl 0, .sl 1])], [(0, bQ l1), (1, bQ l2)], []⟩⟩) [.rng .i64 ((0 + ((l1.length : Nat) : Int)) + ((l2.length : Nat) : Int))] S (by kernel_rfl) (by kernel_rfl) (by kernel_rfl) ⟨rngI64 g2, trivial⟩ ?_
    clear S; intro E a w S
    refine sym_seq lay_ok mixed [] [0, 3, 9, 10, 11, 20] [1000] (⟨[(0, .row 1000 0 2 2), (3, iv (((0 + ((l1.length : Nat) : Int)) + ((l2.length : Nat) : Int)))), (9, .row 1000 0 2 2), (10, iv (2)), (11, iv (1)), (20, .v (.bool (decide (((0 + ((l1.length : Nat) : Int)) + ((l2.length : Nat) : Int)) < 0))))], ⟨[(1000, .blk 42 [.sl 0, .sl 1])], [(0, bQ l1), (1, bQ l2)], []⟩⟩) [] S (by kernel_rfl) (by kernel_rfl) (by kernel_rfl) trivial ?_
    clear S; intro E a w S
    refine sym_if_last (b := decide (((0 + ((l1.length : Nat) : Int)) + ((l2.length : Nat) : Int)) < 0)) S rfl (fun hb2 => ?_) (fun hb2 => ?_)
    · have h := bif_t hb2 h
      cases h
    · have h := bif_f hb2 h
      refine wp_skip ?_
      refine out_block_normal ?_
      refine out_then_normal ?_
      refine sym_last lay_ok mixed [] [0, 3, 9, 10, 11] [1000] (⟨[(0, .row 1000 0 2 2), (3, iv (((0 + ((l1.length : Nat) : Int)) + ((l2.length : Nat) : Int)))), (9, .row 1000 0 2 2), (10, iv (2)), (11, iv (2))], ⟨[(1000, .blk 42 [.sl 0, .sl 1])], [(0, bQ l1), (1, bQ l2)], []⟩⟩) [.rng .i64 2] S (by kernel_rfl) (by kernel_rfl) (by kernel_rfl) ⟨(by decide : IntKind.i64.wrap 2 = 2), trivial⟩ ?_
      clear S; intro E a w S
      refine out_then_normal ?_
      rw [show (18 : Nat) = 17 + 1 from rfl, rounds_succ]
      have S := St.pickG S [0, 3, 9, 10, 11] [1000] [] (⟨[(0, .row 1000 0 2 2), (3, iv (((0 + ((l1.length : Nat) : Int)) + ((l2.length : Nat) : Int)))), (9, .row 1000 0 2 2), (10, iv (2)), (11, iv (2))], ⟨[(1000, .blk 42 [.sl 0, .sl 1])], [(0, bQ l1), (1, bQ l2)], []⟩⟩) (by kernel_rfl)
      refine sym_seq lay_ok mixed [] [0, 3, 9, 10, 11, 12] [1000] (⟨[(0, .row 1000 0 2 2), (3, iv (((0 + ((l1.length : Nat) : Int)) + ((l2.length : Nat) : Int)))), (9, .row 1000 0 2 2), (10, iv (2)), (11, iv (2)), (12, .v (.bool false))], ⟨[(1000, .blk 42 [.sl 0, .sl 1])], [(0, bQ l1), (1, bQ l2)], []⟩⟩) [] S (by kernel_rfl) (by kernel_rfl) (by kernel_rfl) trivial ?_
      clear S; intro E a w S
      refine sym_if (b := false) S rfl (fun hb => absurd hb (by decide)) (fun _ => ?_)
      refine wp_exit ?_
      refine out_then_exit ?_
      refine out_then_exit ?_
      refine out_block_here ?_
      refine out_then_normal ?_
      obtain ⟨r1, e1, h⟩ := bind_some h
      refine sym_seq lay_ok mixed [(1, { g := 0, res := .ltr 0 0, hx := some (RowNew W.heap.size 0 ⟨67, 4, ([] : List MBurner).length, ([] : List MBurner).flatMap (fun x => [.int .i64 x.ready, .int .i64 x.due, .int .i64 x.hours, .int .i64 x.heat])⟩) })] [0, 6] [1000, 0] (⟨[(0, .row 1000 0 2 2), (6, .ltr 0 0)], ⟨[(1000, .blk 42 [.sl 0, .sl 1]), (0, .held (RowNew W.heap.size 0 ⟨67, 4, ([] : List MBurner).length, ([] : List MBurner).flatMap (fun x => [.int .i64 x.ready, .int .i64 x.due, .int .i64 x.hours, .int .i64 x.heat])⟩))], [(0, bQ l1), (1, bQ l2)], []⟩⟩) [.callx ⟨[], [(0, bQ l1), (1, bQ l2)], []⟩ 0 69 [.v (.slice none 0 0), iv (((0 + ((l1.length : Nat) : Int)) + ((l2.length : Nat) : Int)))] (.ltr 0 0) (RowNew W.heap.size 0 ⟨67, 4, ([] : List MBurner).length, ([] : List MBurner).flatMap (fun x => [.int .i64 x.ready, .int .i64 x.due, .int .i64 x.hours, .int .i64 x.heat])⟩)] S (by kernel_rfl) (by kernel_rfl) (by kernel_rfl) ⟨⟨enters_69, fun E W' _ hm => by simp only [SV.vals, SV.val, Env.updX_same]; exact (growM_ok ((0 + ((l1.length : Nat) : Int)) + ((l2.length : Nat) : Int)) W' r1 e1).mono fun e w' hx => by obtain ⟨u, h1, h2, h3, h4⟩ := hx; exact ⟨fun _ => u, h1, h2, fun _ => h3, (h4.imp fun w hx => ⟨hx.1, fun b hb => Nat.le_trans hm.size (hx.2 b hb)⟩).mono fun _ _ h => .inl h⟩⟩, trivial⟩ ?_
      clear S; intro E a w S
      have S := S.takegr 0 0 0 rfl ⟨67, 4, ([] : List MBurner).length, ([] : List MBurner).flatMap (fun x => [.int .i64 x.ready, .int .i64 x.due, .int .i64 x.hours, .int .i64 x.heat])⟩ (fun _ _ h => h) rfl [0, 6] [1000] (by kernel_rfl) (fun s q b9 off hq hl hA => by have hs : s < 1000 := lowL_ok (l := [(0, bQ l1), (1, bQ l2)]) (by kernel_rfl) s q hq; rw [S.pin.2.1 s hs] at hA; exact hlt s q b9 off hq hl hA)
      have S := S.reslot (t := 6) (sv' := .gr 0) rfl (by simp [SV.val, SV.subG, Env.updG])
      obtain ⟨E, S⟩ : ∃ E, St ⟨W, inCB [⟨1000, b, 42, [.sl 0, .sl 1]⟩], Go.Proofs.Try.f64.ntmps, [], allR, rhoOf [⟨1000, b, 42, [.sl 0, .sl 1]⟩], (envOf [(0, ⟨A1, l1.length, c1, 4⟩), (1, ⟨A2, l2.length, c2, 4⟩)]).sl, (envOf [(0, ⟨A1, l1.length, c1, 4⟩), (1, ⟨A2, l2.length, c2, 4⟩)]).x⟩ (⟨[(0, .row 1000 0 2 2), (6, .gr 0)], ⟨[(1000, .blk 42 [.sl 0, .sl 1])], [(0, bQ l1), (1, bQ l2)], [(0, ⟨67, 4, ([] : List MBurner).length, ([] : List MBurner).flatMap (fun x => [.int .i64 x.ready, .int .i64 x.due, .int .i64 x.hours, .int .i64 x.heat])⟩)]⟩⟩) E a w := ⟨_, St.pickG S [0, 6] [1000] [0] (⟨[(0, .row 1000 0 2 2), (6, .gr 0)], ⟨[(1000, .blk 42 [.sl 0, .sl 1])], [(0, bQ l1), (1, bQ l2)], [(0, ⟨67, 4, ([] : List MBurner).length, ([] : List MBurner).flatMap (fun x => [.int .i64 x.ready, .int .i64 x.due, .int .i64 x.hours, .int .i64 x.heat])⟩)]⟩⟩) (by kernel_rfl)⟩
      refine wp_seq ?_
      refine sym_seq lay_ok mixed [] [6, 25, 26, 27] [1000] (⟨[(6, .gr 0), (25, .row 1000 0 2 2), (26, iv (2)), (27, iv (0))], ⟨[(1000, .blk 42 [.sl 0, .sl 1])], [(0, bQ l1), (1, bQ l2)], [(0, ⟨67, 4, ([] : List MBurner).length, ([] : List MBurner).flatMap (fun x => [.int .i64 x.ready, .int .i64 x.due, .int .i64 x.hours, .int .i64 x.heat])⟩)]⟩⟩) [] S (by kernel_rfl) (by kernel_rfl) (by kernel_rfl) trivial ?_
      clear S; intro E a w S
      refine wp_block ?_
      refine wp_loop_rounds 20 ?_
      rw [show (20 : Nat) = 19 + 1 from rfl, rounds_succ]
      have S := St.pickG S [6, 25, 26, 27] [1000] [0] (⟨[(6, .gr 0), (25, .row 1000 0 2 2), (26, iv (2)), (27, iv (0))], ⟨[(1000, .blk 42 [.sl 0, .sl 1])], [(0, bQ l1), (1, bQ l2)], [(0, ⟨67, 4, ([] : List MBurner).length, ([] : List MBurner).flatMap (fun x => [.int .i64 x.ready, .int .i64 x.due, .int .i64 x.hours, .int .i64 x.heat])⟩)]⟩⟩) (by kernel_rfl)
      refine sym_seq lay_ok mixed [] [6, 25, 26, 27, 28] [1000] (⟨[(6, .gr 0), (25, .row 1000 0 2 2), (26, iv (2)), (27, iv (0)), (28, .v (.bool true))], ⟨[(1000, .blk 42 [.sl 0, .sl 1])], [(0, bQ l1), (1, bQ l2)], [(0, ⟨67, 4, ([] : List MBurner).length, ([] : List MBurner).flatMap (fun x => [.int .i64 x.ready, .int .i64 x.due, .int .i64 x.hours, .int .i64 x.heat])⟩)]⟩⟩) [] S (by kernel_rfl) (by kernel_rfl) (by kernel_rfl) trivial ?_
      clear S; intro E a w S
      refine sym_if (b := true) S rfl (fun _ => ?_) (fun hb => absurd hb (by decide))
      refine wp_skip ?_
      refine out_then_normal ?_
      refine wp_seq ?_
      refine wp_block ?_
      refine sym_seq lay_ok mixed [(0, { px := some (.own 1000 0) })] [6, 25, 26, 27, 8] [1000] (⟨[(6, .gr 0), (25, .row 1000 0 2 2), (26, iv (2)), (27, iv (0)), (8, .sl 0)], ⟨[(1000, .blk 42 [.sl 0, .sl 1])], [(0, bQ l1), (1, bQ l2)], [(0, ⟨67, 4, ([] : List MBurner).length, ([] : List MBurner).flatMap (fun x => [.int .i64 x.ready, .int .i64 x.due, .int .i64 x.hours, .int .i64 x.heat])⟩)]⟩⟩) [.pure ⟨[], [(0, bQ l1), (1, bQ l2)], [(0, ⟨67, 4, ([] : List MBurner).length, ([] : List MBurner).flatMap (fun x => [.int .i64 x.ready, .int .i64 x.due, .int .i64 x.hours, .int .i64 x.heat])⟩)]⟩ (.indexAddr 111 (.tmp 25) (.tmp 27)) [.row 1000 0 2 2, iv (0)] (.own 1000 0)] S (by kernel_rfl) (by kernel_rfl) (by kernel_rfl) ⟨pure_idxRow (j := 0) (es := 1) (e := 42) lay_ok rfl (show 0 < 2 by decide), trivial⟩ ?_
      clear S; intro E a w S
      obtain ⟨g3, h⟩ := grd_some h
      refine sym_open_last ?_
      refine sym_runP lay_ok [] 0 2 [6, 25, 26, 27, 31, 32] [1000] (⟨[(6, .gr 0), (25, .row 1000 0 2 2), (26, iv (2)), (27, iv (0)), (31, .gr 0), (32, .sl 0)], ⟨[(1000, .blk 42 [.sl 0, .sl 1])], [(0, bQ l1), (1, bQ l2)], [(0, ⟨67, 4, ([] : List MBurner).length, ([] : List MBurner).flatMap (fun x => [.int .i64 x.ready, .int .i64 x.due, .int .i64 x.hours, .int .i64 x.heat])⟩)]⟩⟩) [] S (by kernel_rfl) (by kernel_rfl) trivial ?_
      clear S; intro E a w S
      refine sym_appendS lay_ok rfl (.tmp 31) (.tmp 32) 42 rfl rfl S 0 0 ⟨67, 4, ([] : List MBurner).length, ([] : List MBurner).flatMap (fun x => [.int .i64 x.ready, .int .i64 x.due, .int .i64 x.hours, .int .i64 x.heat])⟩ (bQZ l1) ⟨.str [(0, 1, false), (1, 1, false), (2, 1, false), (3, 1, false)], 4, [.int .i64 0, .int .i64 0, .int .i64 0, .int .i64 0], false, 32⟩ ⟨.sli 67 4, 1, [.slice none 0 0], false, 24⟩ (l1.flatMap (fun x => [.int .i64 x.ready, .int .i64 x.due, .int .i64 x.hours, .int .i64 x.heat])) rfl rfl rfl rfl rfl rfl rfl rfl rfl (show 0 < 4 by decide) (flat_len (fun x => [.int .i64 x.ready, .int .i64 x.due, .int .i64 x.hours, .int .i64 x.heat]) 4 (fun _ => rfl) l1) (fun j v hv => flat_find (fun x => [.int .i64 x.ready, .int .i64 x.due, .int .i64 x.hours, .int .i64 x.heat]) 4 (fun _ => rfl) l1 j v hv) (fun v hv => by obtain ⟨x, _, hx⟩ := List.mem_flatMap.1 hv; simp only [List.mem_cons, List.not_mem_nil, or_false] at hx; rcases hx with rfl | rfl | rfl | rfl <;> rfl) (fun e he => by cases he; exact Nat.lt_of_succ_le (Nat.le_of_ble_eq_true rfl)) ⟨67, 4, (([] : List MBurner) ++ l1).length, (([] : List MBurner) ++ l1).flatMap (fun x => [.int .i64 x.ready, .int .i64 x.due, .int .i64 x.hours, .int .i64 x.heat])⟩ rfl rfl (by simp) (by simp) (Nat.le_trans g3 (by decide)) (show (([] : List MBurner).length + l1.length) * 32 ≤ 140737488355328 by have := g3; omega) ?_
      clear S; intro v0 E a w S; have S := St.pickG S [25, 26, 27, 32, 33] [1000] [0] (⟨[(25, .row 1000 0 2 2), (26, iv (2)), (27, iv (0)), (32, .sl 0), (33, .gr 0)], ⟨[(1000, .blk 42 [.sl 0, .sl 1])], [(0, bQ l1), (1, bQ l2)], [(0, ⟨67, 4, (([] : List MBurner) ++ l1).length, (([] : List MBurner) ++ l1).flatMap (fun x => [.int .i64 x.ready, .int .i64 x.due, .int .i64 x.hours, .int .i64 x.heat])⟩)]⟩⟩) (by kernel_rfl)
      refine sym_runP lay_ok [] 3 1 [25, 26, 27, 6] [1000] (⟨[(25, .row 1000 0 2 2), (26, iv (2)), (27, iv (0)), (6, .gr 0)], ⟨[(1000, .blk 42 [.sl 0, .sl 1])], [(0, bQ l1), (1, bQ l2)], [(0, ⟨67, 4, (([] : List MBurner) ++ l1).length, (([] : List MBurner) ++ l1).flatMap (fun x => [.int .i64 x.ready, .int .i64 x.due, .int .i64 x.hours, .int .i64 x.heat])⟩)]⟩⟩) [] S (by kernel_rfl) (by kernel_rfl) trivial ?_
      clear S; intro E a w S
      refine sym_done rfl ?_
      have S := St.pickG S [25, 26, 27, 6] [1000] [0] (⟨[(25, .row 1000 0 2 2), (26, iv (2)), (27, iv (0)), (6, .gr 0)], ⟨[(1000, .blk 42 [.sl 0, .sl 1])], [(0, bQ l1), (1, bQ l2)], [(0, ⟨67, 4, (([] : List MBurner) ++ l1).length, (([] : List MBurner) ++ l1).flatMap (fun x => [.int .i64 x.ready, .int .i64 x.due, .int .i64 x.hours, .int .i64 x.heat])⟩)]⟩⟩) (by kernel_rfl)
      refine out_block_normal ?_
      refine out_then_normal ?_
      refine sym_last lay_ok mixed [] [25, 26, 27, 6] [1000] (⟨[(25, .row 1000 0 2 2), (26, iv (2)), (27, iv (1)), (6, .gr 0)], ⟨[(1000, .blk 42 [.sl 0, .sl 1])], [(0, bQ l1), (1, bQ l2)], [(0, ⟨67, 4, (([] : List MBurner) ++ l1).length, (([] : List MBurner) ++ l1).flatMap (fun x => [.int .i64 x.ready, .int .i64 x.due, .int .i64 x.hours, .int .i64 x.heat])⟩)]⟩⟩) [.rng .i64 1] S (by kernel_rfl) (by kernel_rfl) (by kernel_rfl) ⟨(by decide : IntKind.i64.wrap 1 = 1), trivial⟩ ?_
      clear S; intro E a w S
      refine out_then_normal ?_
      rw [show (19 : Nat) = 18 + 1 from rfl, rounds_succ]
      have S := St.pickG S [25, 26, 27, 6] [1000] [0] (⟨[(25, .row 1000 0 2 2), (26, iv (2)), (27, iv (1)), (6, .gr 0)], ⟨[(1000, .blk 42 [.sl 0, .sl 1])], [(0, bQ l1), (1, bQ l2)], [(0, ⟨67, 4, (([] : List MBurner) ++ l1).length, (([] : List MBurner) ++ l1).flatMap (fun x => [.int .i64 x.ready, .int .i64 x.due, .int .i64 x.hours, .int .i64 x.heat])⟩)]⟩⟩) (by kernel_rfl)
      refine sym_seq lay_ok mixed [] [25, 26, 27, 6, 28] [1000] (⟨[(25, .row 1000 0 2 2), (26, iv (2)), (27, iv (1)), (6, .gr 0), (28, .v (.bool true))], ⟨[(1000, .blk 42 [.sl 0, .sl 1])], [(0, bQ l1), (1, bQ l2)], [(0, ⟨67, 4, (([] : List MBurner) ++ l1).length, (([] : List MBurner) ++ l1).flatMap (fun x => [.int .i64 x.ready, .int .i64 x.due, .int .i64 x.hours, .int .i64 x.heat])⟩)]⟩⟩) [] S (by kernel_rfl) (by kernel_rfl) (by kernel_rfl) trivial ?_
      clear S; intro E a w S
      refine sym_if (b := true) S rfl (fun _ => ?_) (fun hb => absurd hb (by decide))
      refine wp_skip ?_
      refine out_then_normal ?_
      refine wp_seq ?_
      refine wp_block ?_
      refine sym_seq lay_ok mixed [(0, { px := some (.own 1000 1) })] [25, 26, 27, 6, 8] [1000] (⟨[(25, .row 1000 0 2 2), (26, iv (2)), (27, iv (1)), (6, .gr 0), (8, .sl 1)], ⟨[(1000, .blk 42 [.sl 0, .sl 1])], [(0, bQ l1), (1, bQ l2)], [(0, ⟨67, 4, (([] : List MBurner) ++ l1).length, (([] : List MBurner) ++ l1).flatMap (fun x => [.int .i64 x.ready, .int .i64 x.due, .int .i64 x.hours, .int .i64 x.heat])⟩)]⟩⟩) [.pure ⟨[], [(0, bQ l1), (1, bQ l2)], [(0, ⟨67, 4, (([] : List MBurner) ++ l1).length, (([] : List MBurner) ++ l1).flatMap (fun x => [.int .i64 x.ready, .int .i64 x.due, .int .i64 x.hours, .int .i64 x.heat])⟩)]⟩ (.indexAddr 111 (.tmp 25) (.tmp 27)) [.row 1000 0 2 2, iv (1)] (.own 1000 1)] S (by kernel_rfl) (by kernel_rfl) (by kernel_rfl) ⟨pure_idxRow (j := 1) (es := 1) (e := 42) lay_ok rfl (show 1 < 2 by decide), trivial⟩ ?_
      clear S; intro E a w S
      obtain ⟨g4, h⟩ := grd_some h
      refine sym_open_last ?_
      refine sym_runP lay_ok [] 0 2 [25, 26, 27, 6, 31, 32] [1000] (⟨[(25, .row 1000 0 2 2), (26, iv (2)), (27, iv (1)), (6, .gr 0), (31, .gr 0), (32, .sl 1)], ⟨[(1000, .blk 42 [.sl 0, .sl 1])], [(0, bQ l1), (1, bQ l2)], [(0, ⟨67, 4, (([] : List MBurner) ++ l1).length, (([] : List MBurner) ++ l1).flatMap (fun x => [.int .i64 x.ready, .int .i64 x.due, .int .i64 x.hours, .int .i64 x.heat])⟩)]⟩⟩) [] S (by kernel_rfl) (by kernel_rfl) trivial ?_
      clear S; intro E a w S
      refine sym_appendS lay_ok rfl (.tmp 31) (.tmp 32) 42 rfl rfl S 0 1 ⟨67, 4, (([] : List MBurner) ++ l1).length, (([] : List MBurner) ++ l1).flatMap (fun x => [.int .i64 x.ready, .int .i64 x.due, .int .i64 x.hours, .int .i64 x.heat])⟩ (bQZ l2) ⟨.str [(0, 1, false), (1, 1, false), (2, 1, false), (3, 1, false)], 4, [.int .i64 0, .int .i64 0, .int .i64 0, .int .i64 0], false, 32⟩ ⟨.sli 67 4, 1, [.slice none 0 0], false, 24⟩ (l2.flatMap (fun x => [.int .i64 x.ready, .int .i64 x.due, .int .i64 x.hours, .int .i64 x.heat])) rfl rfl rfl rfl rfl rfl rfl rfl rfl (show 0 < 4 by decide) (flat_len (fun x => [.int .i64 x.ready, .int .i64 x.due, .int .i64 x.hours, .int .i64 x.heat]) 4 (fun _ => rfl) l2) (fun j v hv => flat_find (fun x => [.int .i64 x.ready, .int .i64 x.due, .int .i64 x.hours, .int .i64 x.heat]) 4 (fun _ => rfl) l2 j v hv) (fun v hv => by obtain ⟨x, _, hx⟩ := List.mem_flatMap.1 hv; simp only [List.mem_cons, List.not_mem_nil, or_false] at hx; rcases hx with rfl | rfl | rfl | rfl <;> rfl) (fun e he => by cases he; exact Nat.lt_of_succ_le (Nat.le_of_ble_eq_true rfl)) ⟨67, 4, ((([] : List MBurner) ++ l1) ++ l2).length, ((([] : List MBurner) ++ l1) ++ l2).flatMap (fun x => [.int .i64 x.ready, .int .i64 x.due, .int .i64 x.hours, .int .i64 x.heat])⟩ rfl rfl (by simp) (by simp) (Nat.le_trans g4 (by decide)) (show ((([] : List MBurner) ++ l1).length + l2.length) * 32 ≤ 140737488355328 by have := g4; omega) ?_
      clear S; intro v0 E a w S; have S := St.pickG S [25, 26, 27, 32, 33] [1000] [0] (⟨[(25, .row 1000 0 2 2), (26, iv (2)), (27, iv (1)), (32, .sl 1), (33, .gr 0)], ⟨[(1000, .blk 42 [.sl 0, .sl 1])], [(0, bQ l1), (1, bQ l2)], [(0, ⟨67, 4, ((([] : List MBurner) ++ l1) ++ l2).length, ((([] : List MBurner) ++ l1) ++ l2).flatMap (fun x => [.int .i64 x.ready, .int .i64 x.due, .int .i64 x.hours, .int .i64 x.heat])⟩)]⟩⟩) (by kernel_rfl)
      refine sym_runP lay_ok [] 3 1 [25, 26, 27, 6] [1000] (⟨[(25, .row 1000 0 2 2), (26, iv (2)), (27, iv (1)), (6, .gr 0)], ⟨[(1000, .blk 42 [.sl 0, .sl 1])], [(0, bQ l1), (1, bQ l2)], [(0, ⟨67, 4, ((([] : List MBurner) ++ l1) ++ l2).length, ((([] : List MBurner) ++ l1) ++ l2).flatMap (fun x => [.int .i64 x.ready, .int .i64 x.due, .int .i64 x.hours, .int .i64 x.heat])⟩)]⟩⟩) [] S (by kernel_rfl) (by kernel_rfl) trivial ?_
      clear S; intro E a w S
      refine sym_done rfl ?_
      have S := St.pickG S [25, 26, 27, 6] [1000] [0] (⟨[(25, .row 1000 0 2 2), (26, iv (2)), (27, iv (1)), (6, .gr 0)], ⟨[(1000, .blk 42 [.sl 0, .sl 1])], [(0, bQ l1), (1, bQ l2)], [(0, ⟨67, 4, ((([] : List MBurner) ++ l1) ++ l2).length, ((([] : List MBurner) ++ l1) ++ l2).flatMap (fun x => [.int .i64 x.ready, .int .i64 x.due, .int .i64 x.hours, .int .i64 x.heat])⟩)]⟩⟩) (by kernel_rfl)
      refine out_block_normal ?_
      refine out_then_normal ?_
      refine sym_last lay_ok mixed [] [25, 26, 27, 6] [1000] (⟨[(25, .row 1000 0 2 2), (26, iv (2)), (27, iv (2)), (6, .gr 0)], ⟨[(1000, .blk 42 [.sl 0, .sl 1])], [(0, bQ l1), (1, bQ l2)], [(0, ⟨67, 4, ((([] : List MBurner) ++ l1) ++ l2).length, ((([] : List MBurner) ++ l1) ++ l2).flatMap (fun x => [.int .i64 x.ready, .int .i64 x.due, .int .i64 x.hours, .int .i64 x.heat])⟩)]⟩⟩) [.rng .i64 2] S (by kernel_rfl) (by kernel_rfl) (by kernel_rfl) ⟨(by decide : IntKind.i64.wrap 2 = 2), trivial⟩ ?_
      clear S; intro E a w S
      refine out_then_normal ?_
      rw [show (18 : Nat) = 17 + 1 from rfl, rounds_succ]
      have S := St.pickG S [25, 26, 27, 6] [1000] [0] (⟨[(25, .row 1000 0 2 2), (26, iv (2)), (27, iv (2)), (6, .gr 0)], ⟨[(1000, .blk 42 [.sl 0, .sl 1])], [(0, bQ l1), (1, bQ l2)], [(0, ⟨67, 4, ((([] : List MBurner) ++ l1) ++ l2).length, ((([] : List MBurner) ++ l1) ++ l2).flatMap (fun x => [.int .i64 x.ready, .int .i64 x.due, .int .i64 x.hours, .int .i64 x.heat])⟩)]⟩⟩) (by kernel_rfl)
      refine sym_seq lay_ok mixed [] [25, 26, 27, 6, 28] [1000] (⟨[(25, .row 1000 0 2 2), (26, iv (2)), (27, iv (2)), (6, .gr 0), (28, .v (.bool false))], ⟨[(1000, .blk 42 [.sl 0, .sl 1])], [(0, bQ l1), (1, bQ l2)], [(0, ⟨67, 4, ((([] : List MBurner) ++ l1) ++ l2).length, ((([] : List MBurner) ++ l1) ++ l2).flatMap (fun x => [.int .i64 x.ready, .int .i64 x.due, .int .i64 x.hours, .int .i64 x.heat])⟩)]⟩⟩) [] S (by kernel_rfl) (by kernel_rfl) (by kernel_rfl) trivial ?_
      clear S; intro E a w S
      refine sym_if (b := false) S rfl (fun hb => absurd hb (by decide)) (fun _ => ?_)
      refine wp_exit ?_
      refine out_then_exit ?_
      refine out_then_exit ?_
      refine out_block_here ?_
      refine out_then_normal ?_
      refine sym_seq lay_ok mixed [] [2] [1000] (⟨[(2, .gr 0)], ⟨[(1000, .blk 42 [.sl 0, .sl 1])], [(0, bQ l1), (1, bQ l2)], [(0, ⟨67, 4, ((([] : List MBurner) ++ l1) ++ l2).length, ((([] : List MBurner) ++ l1) ++ l2).flatMap (fun x => [.int .i64 x.ready, .int .i64 x.due, .int .i64 x.hours, .int .i64 x.heat])⟩)]⟩⟩) [] S (by kernel_rfl) (by kernel_rfl) (by kernel_rfl) trivial ?_
      clear S; intro E a w S
      refine wp_ret ?_
      have h := Option.some.inj h
      subst h
      have hnew : ∀ b9, (E.gr 0).ownBlock = some b9 → W.heap.size ≤ b9 := fun b9 hb9 => by
        rcases S.sep.ginj.2 0 _ b9 rfl hb9 with h9 | ⟨y, hy, e⟩
        · exact h9
        · rw [List.mem_singleton.1 hy] at e
          exact absurd (hb9.trans (congrArg some (e.symm.trans (S.pin.1 1000 (by decide)).symm))) (S.sep.mix 1000 0 _ _ _ rfl rfl)
      exact sym_ret lay_ok [.gr 0] (by kernel_rfl) rfl S ⟨vfun [E.gr 0], rfl, S.below_cb (cbs := [⟨1000, b, 42, [.sl 0, .sl 1]⟩]) (rds0 := [(0, ⟨A1, l1.length, c1, 4⟩), (1, ⟨A2, l2.length, c2, 4⟩)]) rfl rfl rfl ⟨rfl, trivial⟩ rfl ⟨trivial, trivial⟩ (show [1000].Nodup by decide) ⟨hB, trivial⟩ rfl, vfun_one [E.gr 0] ⟨(S.gr_one (k := 0) rfl), trivial⟩, ((S.mem.gr 0 _ rfl).slice hnew 0 (vfun [E.gr 0]) rfl _ (flat_get (fun x => [.int .i64 x.ready, .int .i64 x.due, .int .i64 x.hours, .int .i64 x.heat]) 4 (fun _ => rfl) ((([] : List MBurner) ++ l1) ++ l2))).and (HeldIn.true fun _ => trivial)⟩
end Go.Proofs.Ytlcccomdijdkaaa
namespace Go.Proofs.Ytlcccomdijdkaaa
open Go.RowKit

variable {P : Program} {X : Ctx} {E : Env} {a : Act} {w : World} {st : SState} {Q : Exit → Act → World → Prop}

theorem Oper.wp_track {o : Oper} {K : Act → World → Prop} (h : o.wp P a w (fun a' w' => (∃ v, a'.tmps = (a.put o.dst v).tmps) → K a' w') Q) : o.wp P a w K Q := by
  unfold Oper.wp at *
  generalize (execOp a.eval o).run P w = r at *
  cases r with
  | ok n w' =>
    cases n <;> simp only [Oper.upon] at h ⊢
    all_goals first
      | exact h ⟨_, rfl⟩
      | exact h ⟨undef, by cases o.dst <;> rfl⟩
      | exact Calls.mono h (fun e w'' he => by cases e <;> first | exact he ⟨_, rfl⟩ | exact he)
      | exact Rows.mono h (fun _ _ he => he ⟨_, rfl⟩)
      | exact h
  | halt x w' => cases x <;> simp only [Oper.upon] at h ⊢ <;> exact h
theorem Oper.wp_sides {o : Oper} {K : Act → World → Prop} {Q' : Exit → Act → World → Prop} (hQ : ∀ e a w, e ≠ .normal → Q' e a w → Q e a w) (h : o.wp P a w K Q') : o.wp P a w K Q := by
  unfold Oper.wp at *
  generalize (execOp a.eval o).run P w = r at *
  cases r with
  | ok n w' =>
    cases n <;> simp only [Oper.upon] at h ⊢
    all_goals first
      | exact h
      | exact Calls.mono h (fun e w'' he => by
          cases e
          · exact he
          · exact hQ _ _ _ (by simp) he
          · obtain ⟨a1, w1, h1⟩ := he; exact ⟨a1, w1, hQ _ _ _ (by simp) h1⟩)
  | halt x w' =>
    cases x <;> simp only [Oper.upon] at h ⊢
    all_goals first
      | exact hQ _ _ _ (by simp) h
      | exact h
theorem wpOp_item {ops : List Oper} {i : Nat} {o : Oper} {K : Act → World → Prop} (ho : ops[i]? = some o) (hg : o.guard = none) (h : o.wp P a w (fun a' w' => (∃ v, a'.tmps = (a.put o.dst v).tmps) → K a' w') Q) : wpOp P ops.toArray Q i K a w := by
  unfold wpOp
  simp only [List.getElem?_toArray, ho]
  rw [if_pos (by simp [Region.wanted, hg])]
  exact .inl (Oper.wp_track h)
theorem wpOp_item2 {ops : List Oper} {i : Nat} {o : Oper} {K : Act → World → Prop} (ho : ops[i]? = some o) (hg : o.guard = none) (h : if Region.wanted o (yielded ops.toArray a.tmps) then o.wp P a w (fun a' w' => (∃ v, a'.tmps = (a.put o.dst v).tmps) → K a' w') Q else ((∃ v, (a.put o.dst undef).tmps = (a.put o.dst v).tmps) → K (a.put o.dst undef) w)) : wpOp P ops.toArray Q i K a w := by
  rw [if_pos (by simp [Region.wanted, hg])] at h
  exact wpOp_item ho hg h
theorem wpOp_list {ops : List Oper} {i : Nat} {o : Oper} {K : Act → World → Prop} (ho : ops[i]? = some o) (hg : o.guard = none) 
    (h : wpList P ops.toArray (fun e a' w' => match e with | .normal => (∃ v, a'.tmps = (a.put o.dst v).tmps) → K a' w' | e => Q e a' w') [o] a w) : wpOp P ops.toArray Q i K a w := by
  unfold wpList at h
  rw [if_pos (by simp [Region.wanted, hg])] at h
  rcases h with h | ⟨h1, h2⟩
  · refine wpOp_item ho hg (Oper.wp_sides ?_ (Oper.wp_mono (K' := fun a' w' => (∃ v, a'.tmps = (a.put o.dst v).tmps) → K a' w') (fun a' w' hh => hh) h))
    intro e a' w' hne hq
    cases e <;> first | exact absurd rfl hne | exact hq
  · obtain ⟨a1, w1, h3⟩ := h2
    unfold wpOp
    simp only [List.getElem?_toArray, ho]
    rw [if_pos (by simp [Region.wanted, hg])]
    exact .inr ⟨h1, a1, w1, h3⟩
/-- where a block is, by a slot that has not turned -/
theorem St.at_slot (S : St X st E a w) {t g b : Nat} (hs : look st.slots t = some (.own g 0)) (ht : a.tmps[t]? = some (.pointer (some ⟨b, 0, none⟩))) : E.ρ g = b := by
  have := S.slot t _ hs
  rw [ht] at this
  simp only [SV.val, Option.some.injEq, Value.pointer.injEq, Addr.mk.injEq, and_true] at this
  exact this.symm
theorem tmps_put {a a' : Act} {d t : Nat} {x : Value} (h : ∃ v, a'.tmps = (a.put (some d) v).tmps) (hd : d ≠ t) (ht : a.tmps[t]? = some x) : a'.tmps[t]? = some x := by
  obtain ⟨v, e⟩ := h
  rw [e]
  simp only [Act.put]
  rw [Array.getElem?_setIfInBounds_ne hd]
  exact ht
theorem wpOp_eval {lay : Lay} (hl : LayOK P lay) {ops : List Oper} {i : Nat} {o : Oper} {K : Act → World → Prop} (ho : ops[i]? = some o) (hg : o.guard = none) (h : Hint) (x : TI) (obs : List Ob) (hi : itemOf lay ops st o h = some (x, obs)) (hob : AllOb P X.w0.heap.size obs) (S : St X st E a w) (hd : ∀ d, o.dst = some d → d < X.n)
    (kk : ∀ E' a' w', St X (applyTI st x) E' a' w' → (∃ v, a'.tmps = (a.put o.dst v).tmps) → K a' w') : wpOp P ops.toArray Q i K a w := by
  obtain ⟨n1, n2, n3⟩ := itemOf_new hi
  refine wpOp_item2 ho hg (item_sound hl hi hob S (fun _ _ => rfl) (fun _ _ => rfl) (fun g y h1 h2 => ?_) (fun g y h1 h2 => n3 g y h1 h2) hd (fun E' a' w' S' => kk E' a' w' ?_))
  · obtain ⟨f1, f2⟩ := n2 g y h1 h2
    exact ⟨(freshBl_ok f2).1, freshS_ok f1, (freshBl_ok f2).2⟩
  · unfold St
    rw [applyTI_slots, applyTI_blks, (applyTI_rest st x).1, (applyTI_rest st x).2]
    exact S'
theorem run_ldArr {lay : Lay} (hl : LayOK P lay) {t b T : Nat} {L : List Int} {d : TyD} (ht : look lay t = some d) (hk : isAggT d.k = true) (hn : d.n = 168) (hB : Blk w b T (arrV L)) : (Instr.loadAt t (.pointer (some ⟨b, 0, none⟩))).run P w = .ok (.agg (arrV L)) w := by
  have hlen : (arrSV L).length = 168 := by simp [arrSV]
  have := run_load_cells (E := envOf []) (w := w) hl ht (b := b) (ao := 0) (off := 0) (cs := arrSV L) (v := .agg (arrSV L)) (fun j y hj => by
    rw [hn, List.drop_zero, List.take_of_length_le (by omega)] at hj
    rw [Nat.zero_add, hB.cell]
    have h2 : (SV.vals (envOf []) (arrSV L))[j]? = some (y.val (envOf [])) := by rw [vals_get, hj]; rfl
    rw [arr_vals, Array.getElem?_toList] at h2
    exact h2) (by omega) (.inl hk) (by rw [hk]; simp only [partSV]; rw [hn, List.drop_zero, List.take_of_length_le (by omega)])
  simpa only [SV.val, arr_valsA] using this
/-- a block that is the last code of another one, which is left from within, too -/
theorem sym_block_lastJ {i : Nat} {c : Code} {G : Act → World → Prop} (hG : ∀ a w, G a w → Q .normal a w) (h : (∀ a w, G a w → Q .normal a w) → c.wp P (Exit.inBlock i (Exit.then G Q)) a w) : (Code.block i c).wp P Q a w := sym_block_last (G := G) (h hG) hG
end Go.Proofs.Ytlcccomdijdkaaa
namespace Go.Proofs.Ytlcccomdijdkaaa
open Go.RowKit Go.Proofs.Try

/-- the two blocks that try has caught: an hour, and itself -/
def TBox (by' : Int) (v : Nat → Value) (w : World) : Prop := ∃ b0 b1, v 0 = .pointer (some ⟨b0, 0, none⟩) ∧ v 1 = .pointer (some ⟨b1, 0, none⟩) ∧ Blk w b0 3 #[.int .i64 by'] ∧ Blk w b1 97 #[.func (.func 61) #[] #[.pointer (some ⟨b0, 0, none⟩), .pointer (some ⟨b1, 0, none⟩)]]
/-- a slice of elements of four cells does not lie in a block of one -/
theorem rd_ne_small {W : World} {b T : Nat} {x : Value} {A : Option Addr} {len n : Nat} {get : Nat → List Value} (hB : Blk W b T #[x]) (s : SlAt W A len n get) (h0 : ∃ v, (get 0)[3]? = some v) : InR (fun k => k ≠ b) A len := fun b' off hl hA e => by
  subst e
  obtain ⟨b2, off2, hA2, _, hc⟩ := s hl
  rw [hA] at hA2
  injection hA2 with e1
  injection e1 with e2 e3
  subst e2 e3
  obtain ⟨v, hg⟩ := h0
  have := hc 0 hl 3 _ hg
  rw [hB.cell] at this
  simp at this
theorem rd_ne_arr {W : World} {b T : Nat} {L : List Int} {A : Option Addr} {len n : Nat} {get : Nat → List Value} (_ : Blk W b T (arrV L)) (h : InR (fun k => k ≠ b) A len) : InR (fun k => k ≠ b) A len := h
theorem InR.and {R R' : Nat → Prop} {A : Option Addr} {len : Nat} (h : InR R A len) (h' : InR R' A len) : InR (fun k => R k ∧ R' k) A len := fun b off hl hA => ⟨h b off hl hA, h' b off hl hA⟩
def tryB_k1 (rest : List MBurner) (x1 : Unit) : Option Bool :=
some (((rest.length : Nat) : Int) == 0)
def tryB_l1 (fuel : Nat) (by' : Int) (L : List Int) (rest : List MBurner) (rc : List Int → List MBurner → Option Bool) : Nat → Int → Option (Lp Unit Bool)
  | 0, _ => none
  | n + 1, b1 =>
    (bif decide (b1 < ((rest.length : Nat) : Int)) then
    (grd (((0 : Int) ≤ b1 ∧ (b1 : Int) < ((rest.length : Nat) : Int))) <|
    (stream_hours_start fuel L (rest.getD (Int.toNat b1) default) ((rest.getD (Int.toNat b1) default).ready) by').bind fun (r1 : (Int × Bool)) =>
    (bif (!r1.2) then
    (some (Lp.ret false))
    else
    ((stream_hours_without fuel L (rest.getD (Int.toNat b1) default) r1.1).bind fun (r2 : (List Int)) =>
    grd (((0 : Int) ≤ 0 ∧ 0 ≤ b1 ∧ b1 ≤ ((rest.length : Nat) : Int)) ∧ InI64 (b1 + 1) ∧ ((0 : Int) ≤ (b1 + 1) ∧ (b1 + 1) ≤ ((rest.length : Nat) : Int) ∧ ((rest.length : Nat) : Int) ≤ ((rest.length : Nat) : Int))) <|
    (concatM ((rest.drop 0).take ((Int.toNat b1) - 0)) ((rest.drop (Int.toNat (b1 + 1))).take (rest.length - (Int.toNat (b1 + 1))))).bind fun (r3 : List MBurner) =>
    (rc r2 r3).bind fun (r4 : Bool) =>
    (bif r4 then
    (some (Lp.ret true))
    else
    (grd (InI64 (b1 + 1)) <|
    tryB_l1 fuel by' L rest rc n (b1 + 1))))))
    else
    (some (Lp.done ())))
def tryB (fuel : Nat) (rc : List Int → List MBurner → Option Bool) (by' : Int) (L : List Int) (rest : List MBurner) : Option Bool :=
(tryB_l1 fuel by' L rest rc fuel 0).bind fun lr1 => lr1.go fun x1 => tryB_k1 rest x1
set_option maxRecDepth 100000 in
set_option maxHeartbeats 4000000 in
theorem tryB_ok (fuel : Nat) (rc : List Int → List MBurner → Option Bool) (by' : Int) (hrc : ∀ (L : List Int) (rest : List MBurner) (W : World) (A0 : Option Addr) (c0 : Nat) (h0 : rest.length ≤ c0) (s0 : SlAt W A0 rest.length 4 fun i => bCells (rest.getD i default)) (v : Nat → Value) (hL : TBox by' v W) (res : Bool) (h : rc L rest = some res), Calls Go.Proofs.Try.prog 61 #[.agg (arrV L), .slice A0 rest.length c0, v 0, v 1] W fun e w' => e = .returned (.bool res) ∧ Below W.heap.size W w')
    (L : List Int) (rest : List MBurner) (W : World) (A0 : Option Addr) (c0 : Nat) (h0 : rest.length ≤ c0) (s0 : SlAt W A0 rest.length 4 fun i => bCells (rest.getD i default)) (v : Nat → Value) (hL : TBox by' v W) (res : Bool) (h : tryB fuel rc by' L rest = some res) : Calls Go.Proofs.Try.prog 61 #[.agg (arrV L), .slice A0 rest.length c0, v 0, v 1] W fun e w' => e = .returned (.bool res) ∧ Below W.heap.size W w' := by
  obtain ⟨bA, bB, v0, v1, B0, B1⟩ := hL
  rw [v0, v1, ← arr_valsA (envC [(0, ⟨A0, rest.length, c0, 4⟩)] [] [⟨1000, bA, 3, [iv (by')]⟩, ⟨1001, bB, 97, [.fn 61 [.own 1000 0, .own 1001 0]]⟩]) L]
  have hA : ApartCB [⟨1000, bA, 3, [iv (by')]⟩, ⟨1001, bB, 97, [.fn 61 [.own 1000 0, .own 1001 0]]⟩] := ⟨⟨blk_ne B0 B1 (by decide), trivial⟩, trivial, trivial⟩
  have hB : AllCB W (envC [(0, ⟨A0, rest.length, c0, 4⟩)] [] [⟨1000, bA, 3, [iv (by')]⟩, ⟨1001, bB, 97, [.fn 61 [.own 1000 0, .own 1001 0]]⟩]) [⟨1000, bA, 3, [iv (by')]⟩, ⟨1001, bB, 97, [.fn 61 [.own 1000 0, .own 1001 0]]⟩] := ⟨B0, B1, trivial⟩
  refine sym_closure (f := 61) (fn := Go.Proofs.Try.f61) (c := Go.Proofs.Try.f61.body.get rfl) Go.Proofs.Try.func61 rfl [.agg (arrSV L), .sl 0, .own 1000 0, .own 1001 0] [(0, bQ rest)] [(0, ⟨A0, rest.length, c0, 4⟩)] [⟨1000, bA, 3, [iv (by')]⟩, ⟨1001, bB, 97, [.fn 61 [.own 1000 0, .own 1001 0]]⟩] [(1000, .blk 3 [iv (by')]), (1001, .blk 97 [.fn 61 [.own 1000 0, .own 1001 0]])] rfl (by kernel_rfl) hB hA ⟨s0.rd h0, trivial⟩ ⟨(rd_ne_small B0 s0 ⟨_, rfl⟩).and ((rd_ne_small B1 s0 ⟨_, rfl⟩).and (fun _ _ _ _ => trivial)), trivial⟩ fun E a w S => ?_
  rw [tryB] at h
  refine sym_seq lay_ok mixed [(0, { g := 0 })] [1, 2, 3, 4] [1000, 1001, 0] (⟨[(1, .sl 0), (2, .own 1000 0), (3, .own 1001 0), (4, .own 0 0)], ⟨[(1000, .blk 3 [iv (by')]), (1001, .blk 97 [.fn 61 [.own 1000 0, .own 1001 0]]), (0, .blk 85 (arrSV L))], [(0, bQ rest)], []⟩⟩) [] S (by kernel_rfl) (by kernel_rfl) (by kernel_rfl) trivial ?_
  clear S; intro E a w S
  refine wp_seq ?_
  refine sym_seq lay_ok mixed [] [1, 2, 3, 4, 11, 12, 13] [1000, 1001, 0] (⟨[(1, .sl 0), (2, .own 1000 0), (3, .own 1001 0), (4, .own 0 0), (11, .sl 0), (12, iv (((rest.length : Nat) : Int))), (13, iv (0))], ⟨[(1000, .blk 3 [iv (by')]), (1001, .blk 97 [.fn 61 [.own 1000 0, .own 1001 0]]), (0, .blk 85 (arrSV L))], [(0, bQ rest)], []⟩⟩) [] S (by kernel_rfl) (by kernel_rfl) (by kernel_rfl) trivial ?_
  clear S; intro E a w S
  obtain ⟨lr1, e1, hp1⟩ := bind_some h
  clear h
  refine sym_block_last (G := fun a w => ∃ E, ∃ x1 : Unit, tryB_k1 rest x1 = some res ∧ St ⟨W, inCB [⟨1000, bA, 3, [iv (by')]⟩, ⟨1001, bB, 97, [.fn 61 [.own 1000 0, .own 1001 0]]⟩], Go.Proofs.Try.f61.ntmps, [], allR, rhoOf [⟨1000, bA, 3, [iv (by')]⟩, ⟨1001, bB, 97, [.fn 61 [.own 1000 0, .own 1001 0]]⟩], (envOf [(0, ⟨A0, rest.length, c0, 4⟩)]).sl, (envOf [(0, ⟨A0, rest.length, c0, 4⟩)]).x⟩ (⟨[(1, .sl 0)], ⟨[(1000, .blk 3 [iv (by')]), (1001, .blk 97 [.fn 61 [.own 1000 0, .own 1001 0]])], [(0, bQ rest)], []⟩⟩) E a w) ?_ ?_
  · refine wp_loop_rounds fuel ?_
    refine sym_rounds (F := fun n b1 => tryB_l1 fuel by' L rest rc n b1 = some lr1) (H := fun b1 => ⟨[(1, .sl 0), (2, .own 1000 0), (3, .own 1001 0), (4, .own 0 0), (11, .sl 0), (12, iv (((rest.length : Nat) : Int))), (13, iv (b1))], ⟨[(1000, .blk 3 [iv (by')]), (1001, .blk 97 [.fn 61 [.own 1000 0, .own 1001 0]]), (0, .blk 85 (arrSV L))], [(0, bQ rest)], []⟩⟩) 0 (fun b hb => by have hb : none = some lr1 := hb; cases hb) ?_ _ _ _ _ e1 (St.cast (P := Go.Proofs.Try.prog) [] [] [1, 2, 3, 4, 11, 12, 13] [1000, 1001, 0] [0] _ [] (by kernel_rfl) trivial S)
    clear e1 S
    intro n b1 E a w h ih S
    rw [tryB_l1] at h
    refine sym_seq lay_ok mixed [] [1, 2, 3, 4, 11, 12, 13, 14] [1000, 1001, 0] (⟨[(1, .sl 0), (2, .own 1000 0), (3, .own 1001 0), (4, .own 0 0), (11, .sl 0), (12, iv (((rest.length : Nat) : Int))), (13, iv (b1)), (14, .v (.bool (decide (b1 < ((rest.length : Nat) : Int)))))], ⟨[(1000, .blk 3 [iv (by')]), (1001, .blk 97 [.fn 61 [.own 1000 0, .own 1001 0]]), (0, .blk 85 (arrSV L))], [(0, bQ rest)], []⟩⟩) [] S (by kernel_rfl) (by kernel_rfl) (by kernel_rfl) trivial ?_
    clear S; intro E a w S
    refine sym_if (b := decide (b1 < ((rest.length : Nat) : Int))) S rfl (fun hb1 => ?_) (fun hb1 => ?_)
    · have h := bif_t hb1 h
      refine wp_skip ?_
      refine out_then_normal ?_
      refine wp_seq ?_
      refine wp_block ?_
      obtain ⟨g1, h⟩ := grd_some h
      refine sym_seq lay_ok mixed [(3, { g := 4 })] [1, 2, 3, 4, 11, 12, 13, 8, 7] [1000, 1001, 0, 4] (⟨[(1, .sl 0), (2, .own 1000 0), (3, .own 1001 0), (4, .own 0 0), (11, .sl 0), (12, iv (((rest.length : Nat) : Int))), (13, iv (b1)), (8, .own 4 0), (7, iv (b1))], ⟨[(1000, .blk 3 [iv (by')]), (1001, .blk 97 [.fn 61 [.own 1000 0, .own 1001 0]]), (0, .blk 85 (arrSV L)), (4, .blk 67 [iv (((rest.getD (Int.toNat b1) default).ready)), iv (((rest.getD (Int.toNat b1) default).due)), iv (((rest.getD (Int.toNat b1) default).hours)), iv (((rest.getD (Int.toNat b1) default).heat))])], [(0, bQ rest)], []⟩⟩) [.idx b1 rest.length, .idx b1 rest.length] S (by kernel_rfl) (by kernel_rfl) (by kernel_rfl) ⟨g1, g1, trivial⟩ ?_
      clear S; intro E a w S
      obtain ⟨r1, e2, h⟩ := bind_some h
      refine sym_seq lay_ok mixed [(5, { res := .tup [iv (r1.1), .v (.bool r1.2)] })] [1, 2, 3, 4, 11, 12, 13, 8, 7, 9, 10] [1000, 1001, 0, 4] (⟨[(1, .sl 0), (2, .own 1000 0), (3, .own 1001 0), (4, .own 0 0), (11, .sl 0), (12, iv (((rest.length : Nat) : Int))), (13, iv (b1)), (8, .own 4 0), (7, iv (b1)), (9, iv (r1.1)), (10, .v (.bool r1.2))], ⟨[(1000, .blk 3 [iv (by')]), (1001, .blk 97 [.fn 61 [.own 1000 0, .own 1001 0]]), (0, .blk 85 (arrSV L)), (4, .blk 67 [iv (((rest.getD (Int.toNat b1) default).ready)), iv (((rest.getD (Int.toNat b1) default).due)), iv (((rest.getD (Int.toNat b1) default).hours)), iv (((rest.getD (Int.toNat b1) default).heat))])], [(0, bQ rest)], []⟩⟩) [.call ⟨[], [(0, bQ rest)], []⟩ 62 [.agg (arrSV L), .agg [iv (((rest.getD (Int.toNat b1) default).ready)), iv (((rest.getD (Int.toNat b1) default).due)), iv (((rest.getD (Int.toNat b1) default).hours)), iv (((rest.getD (Int.toNat b1) default).heat))], iv (((rest.getD (Int.toNat b1) default).ready)), iv (by')] (.tup [iv (r1.1), .v (.bool r1.2)])] S (by kernel_rfl) (by kernel_rfl) (by kernel_rfl) ⟨⟨enters_62, fun E W _ hm => by simp only [SV.vals, SV.val, arr_valsA]; exact stream_hours_start_ok fuel L (rest.getD (Int.toNat b1) default) ((rest.getD (Int.toNat b1) default).ready) by' W r1 e2⟩, trivial⟩ ?_
      clear S; intro E a w S
      refine wp_seq ?_
      refine sym_seq lay_ok mixed [] [1, 2, 3, 4, 11, 12, 13, 8, 7, 9, 28] [1000, 1001, 0, 4] (⟨[(1, .sl 0), (2, .own 1000 0), (3, .own 1001 0), (4, .own 0 0), (11, .sl 0), (12, iv (((rest.length : Nat) : Int))), (13, iv (b1)), (8, .own 4 0), (7, iv (b1)), (9, iv (r1.1)), (28, .v (.bool (!r1.2)))], ⟨[(1000, .blk 3 [iv (by')]), (1001, .blk 97 [.fn 61 [.own 1000 0, .own 1001 0]]), (0, .blk 85 (arrSV L)), (4, .blk 67 [iv (((rest.getD (Int.toNat b1) default).ready)), iv (((rest.getD (Int.toNat b1) default).due)), iv (((rest.getD (Int.toNat b1) default).hours)), iv (((rest.getD (Int.toNat b1) default).heat))])], [(0, bQ rest)], []⟩⟩) [] S (by kernel_rfl) (by kernel_rfl) (by kernel_rfl) trivial ?_
      clear S; intro E a w S
      refine sym_if_last (b := (!r1.2)) S rfl (fun hb2 => ?_) (fun hb2 => ?_)
      · have h := bif_t hb2 h
        refine sym_seq lay_ok mixed [] [6] [1000, 1001] (⟨[(6, .v (.bool false))], ⟨[(1000, .blk 3 [iv (by')]), (1001, .blk 97 [.fn 61 [.own 1000 0, .own 1001 0]])], [(0, bQ rest)], []⟩⟩) [] S (by kernel_rfl) (by kernel_rfl) (by kernel_rfl) trivial ?_
        clear S; intro E a w S
        refine wp_ret ?_
        refine out_then_ret ?_
        refine out_block_ret ?_
        refine out_then_ret ?_
        refine out_then_ret ?_
        refine out_block_ret ?_
        refine out_then_ret ?_
        refine out_then_ret ?_
        have hr := Option.some.inj h
        subst hr
        have hr := Option.some.inj hp1
        subst hr
        exact sym_ret lay_ok [.v (.bool false)] (by kernel_rfl) rfl S ⟨rfl, S.below_cb (cbs := [⟨1000, bA, 3, [iv (by')]⟩, ⟨1001, bB, 97, [.fn 61 [.own 1000 0, .own 1001 0]]⟩]) (rds0 := [(0, ⟨A0, rest.length, c0, 4⟩)]) rfl rfl rfl ⟨rfl, rfl, trivial⟩ rfl hA (show [1000, 1001].Nodup by decide) hB rfl⟩
      · have h := bif_f hb2 h
        refine wp_skip ?_
        refine out_then_normal ?_
        obtain ⟨r2, e3, h⟩ := bind_some h
        obtain ⟨⟨g2, g3, g4⟩, h⟩ := grd_some h
        obtain ⟨r3, e4, h⟩ := bind_some h
        obtain ⟨r4, e5, h⟩ := bind_some h
        refine sym_seq lay_ok mixed [(4, { res := .agg (arrSV r2) }), (12, { g := 5 }), (13, { g := 6, fp := [5], res := .ltr 6 0, hx := some (SlicesAre 0 [(bQZ r3)]) }), (14, { fp := [1000, 1001, 6], res := .v (.bool r4) })] [1, 2, 3, 4, 11, 12, 13, 43] [1000, 1001, 0] (⟨[(1, .sl 0), (2, .own 1000 0), (3, .own 1001 0), (4, .own 0 0), (11, .sl 0), (12, iv (((rest.length : Nat) : Int))), (13, iv (b1)), (43, .v (.bool r4))], ⟨[(1000, .blk 3 [iv (by')]), (1001, .blk 97 [.fn 61 [.own 1000 0, .own 1001 0]]), (0, .blk 85 (arrSV L))], [(0, bQ rest)], []⟩⟩) [.call ⟨[], [(0, bQ rest)], []⟩ 63 [.agg (arrSV L), .agg [iv (((rest.getD (Int.toNat b1) default).ready)), iv (((rest.getD (Int.toNat b1) default).due)), iv (((rest.getD (Int.toNat b1) default).hours)), iv (((rest.getD (Int.toNat b1) default).heat))], iv (r1.1)] (.agg (arrSV r2)), .sub 0 b1 rest.length, .rng .i64 (b1 + 1), .sub (b1 + 1) ((rest.length : Nat) : Int) rest.length, .callx ⟨[(5, .blk 42 [.sub 0 0 (Int.toNat b1), .sub 0 (Int.toNat (b1 + 1)) rest.length])], [(0, bQ rest)], []⟩ 6 64 [.row 5 0 2 2] (.ltr 6 0) (SlicesAre 0 [(bQZ r3)]), .call ⟨[(6, .held (SlicesAre 0 [(bQZ r3)])), (1000, .blk 3 [iv (by')]), (1001, .blk 97 [.fn 61 [.own 1000 0, .own 1001 0]])], [(0, bQ rest)], []⟩ 61 [.agg (arrSV r2), .ltr 6 0, .own 1000 0, .own 1001 0] (.v (.bool r4))] S (by kernel_rfl) (by kernel_rfl) (by kernel_rfl) ⟨⟨enters_63, fun E W _ hm => by simp only [SV.vals, SV.val, arr_valsA]; exact stream_hours_without_ok fuel L (rest.getD (Int.toNat b1) default) r1.1 W r2 e3⟩, g2, rngI64 g3, g4, ⟨enters_64, fun E W _ hm => by obtain ⟨A0, c0, q0, l0, s0, _⟩ := Mem.subM hm (s := 0) rfl 0 (Int.toNat b1) ((rest.drop 0).take ((Int.toNat b1) - 0)).length (fun i => bZ (((rest.drop 0).take ((Int.toNat b1) - 0)).getD i default)) (show 0 ≤ (Int.toNat b1) by have := g2; omega) (show (Int.toNat b1) ≤ rest.length by have := g2; omega) (sub_len _ _ _ (by have := g2; omega)) (fun i hi => by simp only [sub_getD _ _ _ _ hi]); obtain ⟨A1, c1, q1, l1, s1, _⟩ := Mem.subM hm (s := 0) rfl (Int.toNat (b1 + 1)) rest.length ((rest.drop (Int.toNat (b1 + 1))).take (rest.length - (Int.toNat (b1 + 1)))).length (fun i => bZ (((rest.drop (Int.toNat (b1 + 1))).take (rest.length - (Int.toNat (b1 + 1)))).getD i default)) (show (Int.toNat (b1 + 1)) ≤ rest.length by have := g4; omega) (show rest.length ≤ rest.length by have := g4; omega) (sub_len _ _ _ (by have := g4; omega)) (fun i hi => by simp only [sub_getD _ _ _ _ hi]); have hB := hm.blk 5 _ _ rfl; simp only [SV.vals, SV.val, q0, q1] at hB; simp only [SV.vals, SV.val, Env.updX_same]; exact (concatM_ok ((rest.drop 0).take ((Int.toNat b1) - 0)) ((rest.drop (Int.toNat (b1 + 1))).take (rest.length - (Int.toNat (b1 + 1)))) W (E.ρ 5) A0 A1 c0 c1 hB l0 s0 l1 s1 r3 e4).mono fun e w' hx => by obtain ⟨v, h1, h2, h3, h4⟩ := hx; exact ⟨v, h1, h2, h3, h4.mono fun _ _ h => .inl h⟩⟩, ⟨enters_61, fun E W _ hm => by obtain ⟨⟨A0, c0, q0, l0, s0⟩, _⟩ := (hm.held 6 _ rfl).out; have hB := hm.blk 1001 _ _ rfl; simp only [SV.vals, SV.val] at hB; simp only [SV.vals, SV.val, arr_valsA, q0]; exact hrc r2 r3 W A0 c0 l0 s0 (vfun [.pointer (some ⟨E.ρ 1000, 0, none⟩), .pointer (some ⟨E.ρ 1001, 0, none⟩)]) ⟨_, _, rfl, rfl, hm.blk 1000 _ _ rfl, hB⟩ r4 e5⟩, trivial⟩ ?_
        clear S; intro E a w S
        refine sym_if_last (b := r4) S rfl (fun hb3 => ?_) (fun hb3 => ?_)
        · have h := bif_t hb3 h
          refine sym_seq lay_ok mixed [] [6] [1000, 1001] (⟨[(6, .v (.bool true))], ⟨[(1000, .blk 3 [iv (by')]), (1001, .blk 97 [.fn 61 [.own 1000 0, .own 1001 0]])], [(0, bQ rest)], []⟩⟩) [] S (by kernel_rfl) (by kernel_rfl) (by kernel_rfl) trivial ?_
          clear S; intro E a w S
          refine wp_ret ?_
          refine out_block_ret ?_
          refine out_then_ret ?_
          refine out_then_ret ?_
          refine out_block_ret ?_
          refine out_then_ret ?_
          refine out_then_ret ?_
          have hr := Option.some.inj h
          subst hr
          have hr := Option.some.inj hp1
          subst hr
          exact sym_ret lay_ok [.v (.bool true)] (by kernel_rfl) rfl S ⟨rfl, S.below_cb (cbs := [⟨1000, bA, 3, [iv (by')]⟩, ⟨1001, bB, 97, [.fn 61 [.own 1000 0, .own 1001 0]]⟩]) (rds0 := [(0, ⟨A0, rest.length, c0, 4⟩)]) rfl rfl rfl ⟨rfl, rfl, trivial⟩ rfl hA (show [1000, 1001].Nodup by decide) hB rfl⟩
        · have h := bif_f hb3 h
          refine wp_skip ?_
          refine out_block_normal ?_
          refine out_then_normal ?_
          obtain ⟨g5, h⟩ := grd_some h
          refine sym_last lay_ok mixed [] [1, 2, 3, 4, 11, 12, 13] [1000, 1001, 0] (⟨[(1, .sl 0), (2, .own 1000 0), (3, .own 1001 0), (4, .own 0 0), (11, .sl 0), (12, iv (((rest.length : Nat) : Int))), (13, iv ((b1 + 1)))], ⟨[(1000, .blk 3 [iv (by')]), (1001, .blk 97 [.fn 61 [.own 1000 0, .own 1001 0]]), (0, .blk 85 (arrSV L))], [(0, bQ rest)], []⟩⟩) [.rng .i64 (b1 + 1)] S (by kernel_rfl) (by kernel_rfl) (by kernel_rfl) ⟨rngI64 g5, trivial⟩ ?_
          clear S; intro E a w S
          refine out_then_normal ?_
          exact ih (b1 + 1) _ _ _ h (St.cast (P := Go.Proofs.Try.prog) [] [] [1, 2, 3, 4, 11, 12, 13] [1000, 1001, 0] [0] _ [] (by kernel_rfl) trivial S)
    · have h := bif_f hb1 h
      refine wp_exit ?_
      refine out_then_exit ?_
      refine out_then_exit ?_
      refine out_block_here ?_
      refine out_then_normal ?_
      have hr := Option.some.inj h
      subst hr
      exact ⟨_, (), hp1, St.cast (P := Go.Proofs.Try.prog) [] [] [1] [1000, 1001] [0] _ [] (by kernel_rfl) trivial S⟩
  clear e1 S
  rintro a w ⟨E, x1, h, S⟩
  rw [tryB_k1] at h
  refine out_then_normal ?_
  refine sym_seq lay_ok mixed [] [6] [1000, 1001] (⟨[(6, .v (.bool (((rest.length : Nat) : Int) == 0)))], ⟨[(1000, .blk 3 [iv (by')]), (1001, .blk 97 [.fn 61 [.own 1000 0, .own 1001 0]])], [(0, bQ rest)], []⟩⟩) [] S (by kernel_rfl) (by kernel_rfl) (by kernel_rfl) trivial ?_
  clear S; intro E a w S
  refine wp_ret ?_
  have h := Option.some.inj h
  subst h
  exact sym_ret lay_ok [.v (.bool (((rest.length : Nat) : Int) == 0))] (by kernel_rfl) rfl S ⟨rfl, S.below_cb (cbs := [⟨1000, bA, 3, [iv (by')]⟩, ⟨1001, bB, 97, [.fn 61 [.own 1000 0, .own 1001 0]]⟩]) (rds0 := [(0, ⟨A0, rest.length, c0, 4⟩)]) rfl rfl rfl ⟨rfl, rfl, trivial⟩ rfl hA (show [1000, 1001].Nodup by decide) hB rfl⟩
/-- try, that tries itself -/
def tryM (fuel : Nat) (by' : Int) : Nat → List Int → List MBurner → Option Bool
  | 0, _, _ => none
  | n + 1, L, rest => tryB fuel (tryM fuel by' n) by' L rest
theorem tryM_ok (fuel : Nat) (by' : Int) : ∀ (n : Nat) (L : List Int) (rest : List MBurner) (W : World) (A0 : Option Addr) (c0 : Nat) (h0 : rest.length ≤ c0) (s0 : SlAt W A0 rest.length 4 fun i => bCells (rest.getD i default)) (v : Nat → Value) (hL : TBox by' v W) (res : Bool) (h : tryM fuel by' n L rest = some res), Calls Go.Proofs.Try.prog 61 #[.agg (arrV L), .slice A0 rest.length c0, v 0, v 1] W fun e w' => e = .returned (.bool res) ∧ Below W.heap.size W w'
  | 0, _, _, _, _, _, _, _, _, _, _, h => by cases h
  | n + 1, L, rest, W, A0, c0, h0, s0, v, hL, res, h => tryB_ok fuel (tryM fuel by' n) by' (tryM_ok fuel by' n) L rest W A0 c0 h0 s0 v hL res h
def stream_hours_hasPlan_R (l : List MBurner) : List (Nat × Q) := [(0, (bQZ l))]
def stream_hours_hasPlan (fuel : Nat) (free : List Int) (l : List MBurner) (by' : Int) : Option Bool :=
(tryM fuel by' (l.length + 1) free l).bind fun (r1 : Bool) =>
some r1
set_option maxRecDepth 100000 in
set_option maxHeartbeats 4000000 in
theorem stream_hours_hasPlan_ok (fuel : Nat) (free : List Int) (l : List MBurner) (by' : Int) (W : World) (A0 : Option Addr) (c0 : Nat) (h0 : l.length ≤ c0) (s0 : SlAt W A0 l.length 4 fun i => bZ (l.getD i default)) (res : Bool) (h : stream_hours_hasPlan fuel free l by' = some res) :
    Calls Go.Proofs.Try.prog 49 #[.agg (arrV free), .slice A0 l.length c0, .int .i64 by'] W fun e w' => e = .returned (.bool res) ∧ Below W.heap.size W w' := by
  rw [← arr_valsA (envOf [(0, ⟨A0, l.length, c0, 4⟩)]) free]
  refine sym_call (f := 49) (fn := Go.Proofs.Try.f49) (c := Go.Proofs.Try.f49.body.get rfl) Go.Proofs.Try.func49 rfl [.agg (arrSV free), .sl 0, iv (by')] (stream_hours_hasPlan_R l) [] (envOf [(0, ⟨A0, l.length, c0, 4⟩)]) allR (fun _ _ => rfl) (by kernel_rfl) (envOf_one trivial) ⟨s0.rd h0, trivial⟩ (AllRR.all _ _) trivial fun E a w S => ?_
  rw [stream_hours_hasPlan] at h
  refine sym_seq lay_ok mixed [(0, { g := 0 }), (1, { g := 1 })] [1, 3, 5] [0, 1] (⟨[(1, .sl 0), (3, .own 0 0), (5, .own 1 0)], ⟨[(0, .blk 85 (arrSV free)), (1, .blk 3 [iv (by')])], (stream_hours_hasPlan_R l), []⟩⟩) [] S (by kernel_rfl) (by kernel_rfl) (by kernel_rfl) trivial ?_
  clear S; intro E a w S
  refine sym_seq lay_ok mixed [(0, { g := 2 })] [1, 3, 5, 7] [0, 1, 2] (⟨[(1, .sl 0), (3, .own 0 0), (5, .own 1 0), (7, .own 2 0)], ⟨[(0, .blk 85 (arrSV free)), (1, .blk 3 [iv (by')]), (2, .blk 97 [.v (.nilFunc)])], (stream_hours_hasPlan_R l), []⟩⟩) [] S (by kernel_rfl) (by kernel_rfl) (by kernel_rfl) trivial ?_
  clear S; intro E a w S
  refine sym_seq lay_ok mixed [] [1, 3, 7] [0, 1, 2] (⟨[(1, .sl 0), (3, .own 0 0), (7, .own 2 0)], ⟨[(0, .blk 85 (arrSV free)), (1, .blk 3 [iv (by')]), (2, .blk 97 [.fn 61 [.own 1 0, .own 2 0]])], (stream_hours_hasPlan_R l), []⟩⟩) [] S (by kernel_rfl) (by kernel_rfl) (by kernel_rfl) trivial ?_
  clear S; intro E a w S
  obtain ⟨r1, e1, h⟩ := bind_some h
  refine sym_seq lay_ok mixed [(3, { fp := [1, 2], res := .v (.bool r1) })] [6] [] (⟨[(6, .v (.bool r1))], ⟨[], (stream_hours_hasPlan_R l), []⟩⟩) [.call ⟨[(1, .blk 3 [iv (by')]), (2, .blk 97 [.fn 61 [.own 1 0, .own 2 0]])], (stream_hours_hasPlan_R l), []⟩ 61 [.agg (arrSV free), .sl 0, .own 1 0, .own 2 0] (.v (.bool r1))] S (by kernel_rfl) (by kernel_rfl) (by kernel_rfl) ⟨⟨enters_61, fun E W _ hm => by obtain ⟨A0, c0, q0, l0, s0, _⟩ := Mem.sl hm (s := 0) rfl; have hB := hm.blk 2 _ _ rfl; simp only [SV.vals, SV.val] at hB; simp only [SV.vals, SV.val, arr_valsA, q0]; exact tryM_ok fuel by' (l.length + 1) free l W A0 c0 l0 s0 (vfun [.pointer (some ⟨E.ρ 1, 0, none⟩), .pointer (some ⟨E.ρ 2, 0, none⟩)]) ⟨_, _, rfl, rfl, hm.blk 1 _ _ rfl, hB⟩ r1 e1⟩, trivial⟩ ?_
  clear S; intro E a w S
  refine wp_ret ?_
  have h := Option.some.inj h
  subst h
  exact sym_ret lay_ok [.v (.bool r1)] (by kernel_rfl) rfl S ⟨rfl, S.below rfl⟩
def runsOff (fuel : Nat) (L : List Int) (l : List MBurner) (by' : Int) : Option Bool :=
(stream_hours_hasPlan fuel L l by').bind fun (r1 : Bool) =>
some r1
/-- the two blocks that Runs$1 has caught -/
def UBox (L : List Int) (l : List MBurner) (v : Nat → Value) (w : World) : Prop := ∃ b0 b1 r, v 0 = .pointer (some ⟨b0, 0, none⟩) ∧ v 1 = .pointer (some ⟨b1, 0, none⟩) ∧ InR (fun k => k ≠ b0 ∧ k ≠ b1 ∧ True) r.A l.length ∧ Blk w b0 85 (arrV L) ∧ Blk w b1 42 #[.slice r.A l.length r.cap] ∧ RdAt w (bQ l) r
set_option maxRecDepth 100000 in
set_option maxHeartbeats 4000000 in
theorem runsOff_ok (fuel : Nat) (L : List Int) (l : List MBurner) (by' : Int) (W : World) (v : Nat → Value) (hL : UBox L l v W) (res : Bool) (h : runsOff fuel L l by' = some res) :
    Calls Go.Proofs.Try.prog 48 #[.int .i64 by', v 0, v 1] W fun e w' => e = .returned (.bool res) ∧ Below W.heap.size W w' := by
  obtain ⟨b0, b1, r, v0, v1, r0, B0, B1, hr⟩ := hL
  obtain ⟨_, h0, s0⟩ := hr.sl
  rw [v0, v1]
  have hA : ApartCB [⟨1000, b0, 85, arrSV L⟩, ⟨1001, b1, 42, [.sl 0]⟩] := ⟨⟨blk_ne B0 B1 (by decide), trivial⟩, trivial, trivial⟩
  have hB : AllCB W (envC [(0, ⟨r.A, l.length, r.cap, 4⟩)] [] [⟨1000, b0, 85, arrSV L⟩, ⟨1001, b1, 42, [.sl 0]⟩]) [⟨1000, b0, 85, arrSV L⟩, ⟨1001, b1, 42, [.sl 0]⟩] := ⟨by rw [arr_valsA]; exact B0, B1, trivial⟩
  refine sym_closure (f := 48) (fn := Go.Proofs.Try.f48) (c := Go.Proofs.Try.f48.body.get rfl) Go.Proofs.Try.func48 rfl [iv (by'), .own 1000 0, .own 1001 0] [(0, bQ l)] [(0, ⟨r.A, l.length, r.cap, 4⟩)] [⟨1000, b0, 85, arrSV L⟩, ⟨1001, b1, 42, [.sl 0]⟩] [(1000, .blk 85 (arrSV L)), (1001, .blk 42 [.sl 0])] rfl (by kernel_rfl) hB hA ⟨s0.rd h0, trivial⟩ ⟨r0, trivial⟩ fun E a w S => ?_
  rw [runsOff] at h
  refine sym_seq lay_ok mixed [] [0, 1, 2] [1000, 1001] (⟨[(0, iv (by')), (1, .own 1000 0), (2, .own 1001 0)], ⟨[(1000, .blk 85 (arrSV L)), (1001, .blk 42 [.sl 0])], [(0, bQ l)], []⟩⟩) [] S (by kernel_rfl) (by kernel_rfl) (by kernel_rfl) trivial ?_
  clear S; intro E a w S
  obtain ⟨r1, e1, h⟩ := bind_some h
  refine sym_seq lay_ok mixed [(3, { res := .v (.bool r1) })] [4] [1000, 1001] (⟨[(4, .v (.bool r1))], ⟨[(1000, .blk 85 (arrSV L)), (1001, .blk 42 [.sl 0])], [(0, bQ l)], []⟩⟩) [.call ⟨[], [(0, bQ l)], []⟩ 49 [.agg (arrSV L), .sl 0, iv (by')] (.v (.bool r1))] S (by kernel_rfl) (by kernel_rfl) (by kernel_rfl) ⟨⟨enters_49, fun E W _ hm => by obtain ⟨A0, c0, q0, l0, s0, _⟩ := Mem.sl hm (s := 0) rfl; simp only [SV.vals, SV.val, arr_valsA, q0]; exact stream_hours_hasPlan_ok fuel L l by' W A0 c0 l0 s0 r1 e1⟩, trivial⟩ ?_
  clear S; intro E a w S
  refine wp_ret ?_
  have h := Option.some.inj h
  subst h
  exact sym_ret lay_ok [.v (.bool r1)] (by kernel_rfl) rfl S ⟨rfl, S.below_cb (cbs := [⟨1000, b0, 85, arrSV L⟩, ⟨1001, b1, 42, [.sl 0]⟩]) (rds0 := [(0, ⟨r.A, l.length, r.cap, 4⟩)]) rfl rfl rfl ⟨rfl, rfl, trivial⟩ rfl hA (show [1000, 1001].Nodup by decide) hB (by kernel_rfl)⟩
def searchRuns_k1  (x1 : Int) : Option Int :=
some x1
def searchRuns_l1 (fuel : Nat) (L : List Int) (l : List MBurner) : Nat → (Int × Int) → Option (Lp Int Int)
  | 0, _ => none
  | n + 1, b1 =>
    (bif decide (b1.1 < b1.2) then
    (grd (InI64 (b1.1 + b1.2) ∧ InU64 (b1.1 + b1.2) ∧ ((0 : Int) ≤ (b1.1 + b1.2)) ∧ InI64 ((b1.1 + b1.2) / 2)) <|
    (runsOff fuel L l ((b1.1 + b1.2) / 2)).bind fun (r1 : Bool) =>
    (bif (!r1) then
    (grd (InI64 (((b1.1 + b1.2) / 2) + 1)) <|
    searchRuns_l1 fuel L l n ((((b1.1 + b1.2) / 2) + 1), b1.2))
    else
    (searchRuns_l1 fuel L l n (b1.1, ((b1.1 + b1.2) / 2)))))
    else
    (some (Lp.done b1.1)))
def searchRuns (fuel : Nat) (L : List Int) (l : List MBurner) (n0 : Int) : Option Int :=
(searchRuns_l1 fuel L l fuel (0, n0)).bind fun lr1 => lr1.go fun x1 => searchRuns_k1 x1
set_option maxRecDepth 100000 in
set_option maxHeartbeats 4000000 in
theorem searchRuns_ok (fuel : Nat) (L : List Int) (l : List MBurner) (n0 : Int) (W : World) (v : Nat → Value) (hv : ∀ i, (v i).oneCell' = true) (hL : HeldIn allR W (UBox L l v)) (res : Int) (h : searchRuns fuel L l n0 = some res) :
    Calls Go.Proofs.Try.prog 44 #[.int .i64 n0, .func (.func 48) #[] #[v 0, v 1]] W fun e w' => e = .returned (.int .i64 res) ∧ Below W.heap.size W w' := by
  refine sym_call (f := 44) (fn := Go.Proofs.Try.f44) (c := Go.Proofs.Try.f44.body.get rfl) Go.Proofs.Try.func44 rfl [iv (n0), .fn 48 [.ltr 1500 0, .ltr 1500 1]] [] [(1500, .held (UBox L l))] (envOf [] [(1500, v)]) allR (fun _ _ => rfl) (by kernel_rfl) (envOf_one ⟨hv, trivial⟩) trivial trivial ⟨hL, trivial⟩ fun E a w S => ?_
  rw [searchRuns] at h
  refine sym_seq lay_ok mixed [] [0, 1] [1500] (⟨[(0, iv (n0)), (1, .fn 48 [.ltr 1500 0, .ltr 1500 1])], ⟨[(1500, .held (UBox L l))], [], []⟩⟩) [] S (by kernel_rfl) (by kernel_rfl) (by kernel_rfl) trivial ?_
  clear S; intro E a w S
  refine sym_seq lay_ok mixed [] [1, 5, 6] [1500] (⟨[(1, .fn 48 [.ltr 1500 0, .ltr 1500 1]), (5, iv (0)), (6, iv (n0))], ⟨[(1500, .held (UBox L l))], [], []⟩⟩) [] S (by kernel_rfl) (by kernel_rfl) (by kernel_rfl) trivial ?_
  clear S; intro E a w S
  obtain ⟨lr1, e1, hp1⟩ := bind_some h
  clear h
  refine sym_block_meet (G := fun a w => ∃ E, ∃ x1 : Int, searchRuns_k1 x1 = some res ∧ St ⟨W, noC, Go.Proofs.Try.f44.ntmps, [], allR, noρ, (envOf []).sl, (envOf [] [(1500, v)]).x⟩ (⟨[(5, iv (x1))], ⟨[(1500, .held (UBox L l))], [], []⟩⟩) E a w) ?_ ?_
  · refine wp_loop_rounds fuel ?_
    refine sym_rounds (F := fun n b1 => searchRuns_l1 fuel L l n b1 = some lr1) (H := fun b1 => ⟨[(1, .fn 48 [.ltr 1500 0, .ltr 1500 1]), (5, iv (b1.1)), (6, iv (b1.2))], ⟨[(1500, .held (UBox L l))], [], []⟩⟩) (0, n0) (fun b hb => by have hb : none = some lr1 := hb; cases hb) ?_ _ _ _ _ e1 (St.cast (P := Go.Proofs.Try.prog) [] [] [1, 5, 6] [1500] [] _ [] (by kernel_rfl) trivial S)
    clear e1 S
    intro n b1 E a w h ih S
    rw [searchRuns_l1] at h
    refine wp_seq ?_
    refine sym_seq lay_ok mixed [] [1, 5, 6, 11] [1500] (⟨[(1, .fn 48 [.ltr 1500 0, .ltr 1500 1]), (5, iv (b1.1)), (6, iv (b1.2)), (11, .v (.bool (decide (b1.1 < b1.2))))], ⟨[(1500, .held (UBox L l))], [], []⟩⟩) [] S (by kernel_rfl) (by kernel_rfl) (by kernel_rfl) trivial ?_
    clear S; intro E a w S
    refine sym_if_last (b := decide (b1.1 < b1.2)) S rfl (fun hb1 => ?_) (fun hb1 => ?_)
    · have h := bif_t hb1 h
      refine wp_skip ?_
      refine out_then_normal ?_
      refine wp_block ?_
      obtain ⟨⟨g1, g2, g3, g4⟩, h⟩ := grd_some h
      refine sym_seq lay_ok mixed [(4, { px := some (.v (.int .u64 ((b1.1 + b1.2) / 2))) })] [1, 5, 6, 7] [1500] (⟨[(1, .fn 48 [.ltr 1500 0, .ltr 1500 1]), (5, iv (b1.1)), (6, iv (b1.2)), (7, iv (((b1.1 + b1.2) / 2)))], ⟨[(1500, .held (UBox L l))], [], []⟩⟩) [.rng .i64 (b1.1 + b1.2), .rng .u64 (b1.1 + b1.2), .pure ⟨[], [], []⟩ (.binOp .shr 95 (.tmp 15) (.const (.int .u64 1)) 95) [.v (.int .u64 (b1.1 + b1.2)), .v (.int .u64 1)] (.v (.int .u64 ((b1.1 + b1.2) / 2))), .rng .i64 ((b1.1 + b1.2) / 2)] S (by kernel_rfl) (by kernel_rfl) (by kernel_rfl) ⟨rngI64 g1, rngU64 g2, pure_shr1 g3, rngI64 g4, trivial⟩ ?_
      clear S; intro E a w S
      obtain ⟨r1, e2, h⟩ := bind_some h
      refine sym_seq lay_ok mixed [(2, { fp := [1500], res := .v (.bool r1) })] [1, 5, 6, 7, 21] [1500] (⟨[(1, .fn 48 [.ltr 1500 0, .ltr 1500 1]), (5, iv (b1.1)), (6, iv (b1.2)), (7, iv (((b1.1 + b1.2) / 2))), (21, .v (.bool (!r1)))], ⟨[(1500, .held (UBox L l))], [], []⟩⟩) [.call ⟨[(1500, .held (UBox L l))], [], []⟩ 48 [iv (((b1.1 + b1.2) / 2)), .ltr 1500 0, .ltr 1500 1] (.v (.bool r1))] S (by kernel_rfl) (by kernel_rfl) (by kernel_rfl) ⟨⟨enters_48, fun E W _ hm => runsOff_ok fuel L l ((b1.1 + b1.2) / 2) W _ (hm.held 1500 _ rfl).out r1 e2⟩, trivial⟩ ?_
      clear S; intro E a w S
      refine sym_if_last (b := (!r1)) S rfl (fun hb2 => ?_) (fun hb2 => ?_)
      · have h := bif_t hb2 h
        obtain ⟨g5, h⟩ := grd_some h
        refine sym_last lay_ok mixed [] [1, 5, 6] [1500] (⟨[(1, .fn 48 [.ltr 1500 0, .ltr 1500 1]), (5, iv ((((b1.1 + b1.2) / 2) + 1))), (6, iv (b1.2))], ⟨[(1500, .held (UBox L l))], [], []⟩⟩) [.rng .i64 (((b1.1 + b1.2) / 2) + 1)] S (by kernel_rfl) (by kernel_rfl) (by kernel_rfl) ⟨rngI64 g5, trivial⟩ ?_
        clear S; intro E a w S
        refine out_block_normal ?_
        refine out_then_normal ?_
        exact ih ((((b1.1 + b1.2) / 2) + 1), b1.2) _ _ _ h (St.cast (P := Go.Proofs.Try.prog) [] [] [1, 5, 6] [1500] [] _ [] (by kernel_rfl) trivial S)
      · have h := bif_f hb2 h
        refine sym_last lay_ok mixed [] [1, 5, 6] [1500] (⟨[(1, .fn 48 [.ltr 1500 0, .ltr 1500 1]), (5, iv (b1.1)), (6, iv (((b1.1 + b1.2) / 2)))], ⟨[(1500, .held (UBox L l))], [], []⟩⟩) [] S (by kernel_rfl) (by kernel_rfl) (by kernel_rfl) trivial ?_
        clear S; intro E a w S
        refine out_block_normal ?_
        refine out_then_normal ?_
        exact ih (b1.1, ((b1.1 + b1.2) / 2)) _ _ _ h (St.cast (P := Go.Proofs.Try.prog) [] [] [1, 5, 6] [1500] [] _ [] (by kernel_rfl) trivial S)
    · have h := bif_f hb1 h
      refine wp_exit ?_
      refine out_then_exit ?_
      refine out_then_exit ?_
      refine out_block_here ?_
      refine out_then_normal ?_
      have hr := Option.some.inj h
      subst hr
      exact ⟨_, b1.1, hp1, St.cast (P := Go.Proofs.Try.prog) [] [] [5] [1500] [] _ [] (by kernel_rfl) trivial S⟩
  clear e1 S
  rintro a w ⟨E, x1, h, S⟩
  rw [searchRuns_k1] at h
  refine sym_seq lay_ok mixed [] [4] [1500] (⟨[(4, iv (x1))], ⟨[(1500, .held (UBox L l))], [], []⟩⟩) [] S (by kernel_rfl) (by kernel_rfl) (by kernel_rfl) trivial ?_
  clear S; intro E a w S
  refine wp_ret ?_
  have h := Option.some.inj h
  subst h
  exact sym_ret lay_ok [iv (x1)] (by kernel_rfl) rfl S ⟨rfl, S.below rfl⟩
end Go.Proofs.Ytlcccomdijdkaaa
namespace Go.Proofs.Ytlcccomdijdkaaa
open Go.RowKit Go.Proofs.Try

def stream_hours_plan_R (l : List MBurner) : List (Nat × Q) := [(0, (bQZ l))]
def stream_hours_plan_l2 (fuel : Nat) (l : List MBurner) (by' : Int) (b1 : Int × List Int × List Int) : Nat → (Int × Bool) → Option (Lp (List Int × List Int) (Lp (List Int) (List Int)))
  | 0, _ => none
  | n + 1, b2 =>
    (bif b2.2 then
    ((stream_hours_without fuel b1.2.1 (l.getD (Int.toNat b1.1) default) b2.1).bind fun (r2 : (List Int)) =>
    grd (InI64 (b1.1 + 1) ∧ ((0 : Int) ≤ (b1.1 + 1) ∧ (b1.1 + 1) ≤ ((l.length : Nat) : Int) ∧ ((l.length : Nat) : Int) ≤ ((l.length : Nat) : Int))) <|
    (stream_hours_hasPlan fuel r2 ((l.drop (Int.toNat (b1.1 + 1))).take (l.length - (Int.toNat (b1.1 + 1)))) by').bind fun (r3 : Bool) =>
    (bif r3 then
    (grd ((b1.2.2.length + 1 ≤ 1000000)) <|
    some (Lp.done (r2, (b1.2.2 ++ [b2.1]))))
    else
    (grd (InI64 (b2.1 + 1)) <|
    (stream_hours_start fuel b1.2.1 (l.getD (Int.toNat b1.1) default) (b2.1 + 1) by').bind fun (r4 : (Int × Bool)) =>
    stream_hours_plan_l2 fuel l by' b1 n (r4.1, r4.2))))
    else
    (some (Lp.done (b1.2.1, b1.2.2))))
def stream_hours_plan_k1  (x1 : List Int) : Option (List Int) :=
some x1
def stream_hours_plan_l1 (fuel : Nat) (l : List MBurner) (by' : Int) : Nat → (Int × List Int × List Int) → Option (Lp (List Int) (List Int))
  | 0, _ => none
  | n + 1, b1 =>
    (bif decide (b1.1 < ((l.length : Nat) : Int)) then
    (grd (((0 : Int) ≤ b1.1 ∧ (b1.1 : Int) < ((l.length : Nat) : Int))) <|
    (stream_hours_start fuel b1.2.1 (l.getD (Int.toNat b1.1) default) ((l.getD (Int.toNat b1.1) default).ready) by').bind fun (r1 : (Int × Bool)) =>
    (stream_hours_plan_l2 fuel l by' b1 fuel (r1.1, r1.2)).bind fun lr2 => lr2.go fun x2 => (fun (x2 : List Int × List Int) =>
    grd (InI64 (b1.1 + 1)) <|
    stream_hours_plan_l1 fuel l by' n ((b1.1 + 1), x2.1, x2.2)) x2)
    else
    (some (Lp.done b1.2.2)))
def stream_hours_plan (fuel : Nat) (free : List Int) (l : List MBurner) (by' : Int) : Option (List Int) :=
(stream_hours_plan_l1 fuel l by' fuel (0, free, ([] : List Int))).bind fun lr1 => lr1.go fun x1 => stream_hours_plan_k1 x1
set_option maxRecDepth 100000 in
set_option maxHeartbeats 4000000 in
theorem stream_hours_plan_ok (fuel : Nat) (free : List Int) (l : List MBurner) (by' : Int) (W : World) (A0 : Option Addr) (c0 : Nat) (h0 : l.length ≤ c0) (s0 : SlAt W A0 l.length 4 fun i => bZ (l.getD i default)) (res : List Int) (h : stream_hours_plan fuel free l by' = some res) :
    Calls Go.Proofs.Try.prog 50 #[.agg (arrV free), .slice A0 l.length c0, .int .i64 by'] W fun e w' => ∃ v : Nat → Value, e = .returned (v 0) ∧ Below W.heap.size W w' ∧ (∀ i, (v i).oneCell' = true) ∧ HeldIn (fun k => W.heap.size ≤ k) w' (SlicesAre 0 [(iQZ res)] v) := by
  rw [← arr_valsA (envOf [(0, ⟨A0, l.length, c0, 4⟩)]) free]
  refine sym_call (f := 50) (fn := Go.Proofs.Try.f50) (c := Go.Proofs.Try.f50.body.get rfl) Go.Proofs.Try.func50 rfl [.agg (arrSV free), .sl 0, iv (by')] (stream_hours_plan_R l) [] (envOf [(0, ⟨A0, l.length, c0, 4⟩)]) allR (fun _ _ => rfl) (by kernel_rfl) (envOf_one trivial) ⟨s0.rd h0, trivial⟩ (AllRR.all _ _) trivial fun E a w S => ?_
  rw [stream_hours_plan] at h
  refine sym_seq lay_ok mixed [(0, { g := 0 })] [1, 2, 3] [0] (⟨[(1, .sl 0), (2, iv (by')), (3, .own 0 0)], ⟨[(0, .blk 85 (arrSV free))], (stream_hours_plan_R l), []⟩⟩) [] S (by kernel_rfl) (by kernel_rfl) (by kernel_rfl) trivial ?_
  clear S; intro E a w S
  refine wp_scope_straight ?_
  refine sym_seq lay_ok mixed [] [1, 2, 3, 7] [0] (⟨[(1, .sl 0), (2, iv (by')), (3, .own 0 0), (7, .v (.slice none 0 0))], ⟨[(0, .blk 85 (arrSV free))], (stream_hours_plan_R l), []⟩⟩) [] S (by kernel_rfl) (by kernel_rfl) (by kernel_rfl) trivial ?_
  clear S; intro E a w S
  refine wp_seq ?_
  refine wp_label ?_
  refine out_then_normal ?_
  refine wp_seq ?_
  refine sym_seq lay_ok mixed [] [1, 2, 3, 7, 13, 14, 15] [0] (⟨[(1, .sl 0), (2, iv (by')), (3, .own 0 0), (7, .v (.slice none 0 0)), (13, .sl 0), (14, iv (((l.length : Nat) : Int))), (15, iv (0))], ⟨[(0, .blk 85 (arrSV free))], (stream_hours_plan_R l), []⟩⟩) [] S (by kernel_rfl) (by kernel_rfl) (by kernel_rfl) trivial ?_
  clear S; intro E a w S
  have S := S.nilgr 0 3 1
  have S := S.reslot (t := 7) (sv' := .gr 0) rfl (by simp [SV.val, SV.subG, Env.updG_same])
  obtain ⟨E, S⟩ : ∃ E, St ⟨W, noC, Go.Proofs.Try.f50.ntmps, [], allR, noρ, (envOf [(0, ⟨A0, l.length, c0, 4⟩)]).sl, (envOf [(0, ⟨A0, l.length, c0, 4⟩)]).x⟩ (⟨[(1, .sl 0), (2, iv (by')), (3, .own 0 0), (7, .gr 0), (13, .sl 0), (14, iv (((l.length : Nat) : Int))), (15, iv (0))], ⟨[(0, .blk 85 (arrSV free))], (stream_hours_plan_R l), [(0, ⟨3, 1, ([] : List Int).length, ([] : List Int).flatMap (fun x => [.int .i64 x])⟩)]⟩⟩) E a w := ⟨_, St.pickG S [1, 2, 3, 7, 13, 14, 15] [0] [0] (⟨[(1, .sl 0), (2, iv (by')), (3, .own 0 0), (7, .gr 0), (13, .sl 0), (14, iv (((l.length : Nat) : Int))), (15, iv (0))], ⟨[(0, .blk 85 (arrSV free))], (stream_hours_plan_R l), [(0, ⟨3, 1, ([] : List Int).length, ([] : List Int).flatMap (fun x => [.int .i64 x])⟩)]⟩⟩) (by kernel_rfl)⟩
  obtain ⟨lr1, e1, hp1⟩ := bind_some h
  clear h
  refine sym_block_last (G := fun a w => ∃ E, ∃ x1 : List Int, stream_hours_plan_k1 x1 = some res ∧ St ⟨W, noC, Go.Proofs.Try.f50.ntmps, [], allR, noρ, (envOf [(0, ⟨A0, l.length, c0, 4⟩)]).sl, (envOf [(0, ⟨A0, l.length, c0, 4⟩)]).x⟩ (⟨[(7, .gr 0)], ⟨[], (stream_hours_plan_R l), [(0, ⟨3, 1, x1.length, x1.flatMap (fun x => [.int .i64 x])⟩)]⟩⟩) E a w) ?_ ?_
  · refine wp_loop_rounds fuel ?_
    refine sym_rounds (F := fun n b1 => stream_hours_plan_l1 fuel l by' n b1 = some lr1) (H := fun b1 => ⟨[(1, .sl 0), (2, iv (by')), (3, .own 0 0), (7, .gr 0), (13, .sl 0), (14, iv (((l.length : Nat) : Int))), (15, iv (b1.1))], ⟨[(0, .blk 85 (arrSV b1.2.1))], (stream_hours_plan_R l), [(0, ⟨3, 1, b1.2.2.length, b1.2.2.flatMap (fun x => [.int .i64 x])⟩)]⟩⟩) (0, free, ([] : List Int)) (fun b hb => by have hb : none = some lr1 := hb; cases hb) ?_ _ _ _ _ e1 (St.cast (P := Go.Proofs.Try.prog) [] [] [1, 2, 3, 7, 13, 14, 15] [0] [0] _ [] (by kernel_rfl) trivial S)
    clear e1 S
    intro n b1 E a w h ih S
    rw [stream_hours_plan_l1] at h
    refine sym_seq lay_ok mixed [] [1, 2, 3, 7, 13, 14, 15, 16] [0] (⟨[(1, .sl 0), (2, iv (by')), (3, .own 0 0), (7, .gr 0), (13, .sl 0), (14, iv (((l.length : Nat) : Int))), (15, iv (b1.1)), (16, .v (.bool (decide (b1.1 < ((l.length : Nat) : Int)))))], ⟨[(0, .blk 85 (arrSV b1.2.1))], (stream_hours_plan_R l), [(0, ⟨3, 1, b1.2.2.length, b1.2.2.flatMap (fun x => [.int .i64 x])⟩)]⟩⟩) [] S (by kernel_rfl) (by kernel_rfl) (by kernel_rfl) trivial ?_
    clear S; intro E a w S
    refine sym_if (b := decide (b1.1 < ((l.length : Nat) : Int))) S rfl (fun hb1 => ?_) (fun hb1 => ?_)
    · have h := bif_t hb1 h
      refine wp_skip ?_
      refine out_then_normal ?_
      refine wp_seq ?_
      refine wp_block ?_
      obtain ⟨g1, h⟩ := grd_some h
      refine sym_seq lay_ok mixed [(3, { g := 6 })] [1, 2, 3, 7, 13, 14, 15, 9, 8] [0, 6] (⟨[(1, .sl 0), (2, iv (by')), (3, .own 0 0), (7, .gr 0), (13, .sl 0), (14, iv (((l.length : Nat) : Int))), (15, iv (b1.1)), (9, .own 6 0), (8, iv (b1.1))], ⟨[(0, .blk 85 (arrSV b1.2.1)), (6, .blk 67 [iv (((l.getD (Int.toNat b1.1) default).ready)), iv (((l.getD (Int.toNat b1.1) default).due)), iv (((l.getD (Int.toNat b1.1) default).hours)), iv (((l.getD (Int.toNat b1.1) default).heat))])], (stream_hours_plan_R l), [(0, ⟨3, 1, b1.2.2.length, b1.2.2.flatMap (fun x => [.int .i64 x])⟩)]⟩⟩) [.idx b1.1 l.length, .idx b1.1 l.length] S (by kernel_rfl) (by kernel_rfl) (by kernel_rfl) ⟨g1, g1, trivial⟩ ?_
      clear S; intro E a w S
      obtain ⟨r1, e2, h⟩ := bind_some h
      refine sym_seq lay_ok mixed [(5, { res := .tup [iv (r1.1), .v (.bool r1.2)] })] [1, 2, 3, 7, 13, 14, 15, 9, 8, 10, 11] [0, 6] (⟨[(1, .sl 0), (2, iv (by')), (3, .own 0 0), (7, .gr 0), (13, .sl 0), (14, iv (((l.length : Nat) : Int))), (15, iv (b1.1)), (9, .own 6 0), (8, iv (b1.1)), (10, iv (r1.1)), (11, .v (.bool r1.2))], ⟨[(0, .blk 85 (arrSV b1.2.1)), (6, .blk 67 [iv (((l.getD (Int.toNat b1.1) default).ready)), iv (((l.getD (Int.toNat b1.1) default).due)), iv (((l.getD (Int.toNat b1.1) default).hours)), iv (((l.getD (Int.toNat b1.1) default).heat))])], (stream_hours_plan_R l), [(0, ⟨3, 1, b1.2.2.length, b1.2.2.flatMap (fun x => [.int .i64 x])⟩)]⟩⟩) [.call ⟨[], (stream_hours_plan_R l), [(0, ⟨3, 1, b1.2.2.length, b1.2.2.flatMap (fun x => [.int .i64 x])⟩)]⟩ 62 [.agg (arrSV b1.2.1), .agg [iv (((l.getD (Int.toNat b1.1) default).ready)), iv (((l.getD (Int.toNat b1.1) default).due)), iv (((l.getD (Int.toNat b1.1) default).hours)), iv (((l.getD (Int.toNat b1.1) default).heat))], iv (((l.getD (Int.toNat b1.1) default).ready)), iv (by')] (.tup [iv (r1.1), .v (.bool r1.2)])] S (by kernel_rfl) (by kernel_rfl) (by kernel_rfl) ⟨⟨enters_62, fun E W _ hm => by simp only [SV.vals, SV.val, arr_valsA]; exact stream_hours_start_ok fuel b1.2.1 (l.getD (Int.toNat b1.1) default) ((l.getD (Int.toNat b1.1) default).ready) by' W r1 e2⟩, trivial⟩ ?_
      clear S; intro E a w S
      obtain ⟨lr2, e3, hp2⟩ := bind_some h
      clear h
      refine sym_block_lastJ (G := fun a w => ∃ E, ∃ x2 : List Int × List Int, (fun (x2 : List Int × List Int) =>
grd (InI64 (b1.1 + 1)) <|
stream_hours_plan_l1 fuel l by' n ((b1.1 + 1), x2.1, x2.2)) x2 = some lr1 ∧ St ⟨W, noC, Go.Proofs.Try.f50.ntmps, [], allR, noρ, (envOf [(0, ⟨A0, l.length, c0, 4⟩)]).sl, (envOf [(0, ⟨A0, l.length, c0, 4⟩)]).x⟩ (⟨[(1, .sl 0), (2, iv (by')), (3, .own 0 0), (13, .sl 0), (14, iv (((l.length : Nat) : Int))), (15, iv (b1.1)), (7, .gr 0)], ⟨[(0, .blk 85 (arrSV x2.1))], (stream_hours_plan_R l), [(0, ⟨3, 1, x2.2.length, x2.2.flatMap (fun x => [.int .i64 x])⟩)]⟩⟩) E a w) ?_ ?_
      · rintro a w ⟨E, x2, h, S⟩
        refine out_block_normal ?_
        refine out_then_normal ?_
        obtain ⟨g6, h⟩ := grd_some h
        refine sym_last lay_ok mixed [] [1, 2, 3, 13, 14, 15, 7] [0] (⟨[(1, .sl 0), (2, iv (by')), (3, .own 0 0), (13, .sl 0), (14, iv (((l.length : Nat) : Int))), (15, iv ((b1.1 + 1))), (7, .gr 0)], ⟨[(0, .blk 85 (arrSV x2.1))], (stream_hours_plan_R l), [(0, ⟨3, 1, x2.2.length, x2.2.flatMap (fun x => [.int .i64 x])⟩)]⟩⟩) [.rng .i64 (b1.1 + 1)] S (by kernel_rfl) (by kernel_rfl) (by kernel_rfl) ⟨rngI64 g6, trivial⟩ ?_
        clear S; intro E a w S
        refine out_then_normal ?_
        exact ih ((b1.1 + 1), x2.1, x2.2) _ _ _ h (St.cast (P := Go.Proofs.Try.prog) [] [] [1, 2, 3, 7, 13, 14, 15] [0] [0] _ [] (by kernel_rfl) trivial S)
      · intro hG
        refine wp_loop_rounds fuel ?_
        refine sym_rounds (F := fun n b2 => stream_hours_plan_l2 fuel l by' b1 n b2 = some lr2) (H := fun b2 => ⟨[(1, .sl 0), (2, iv (by')), (3, .own 0 0), (7, .gr 0), (13, .sl 0), (14, iv (((l.length : Nat) : Int))), (15, iv (b1.1)), (9, .own 6 0), (8, iv (b1.1)), (10, iv (b2.1)), (11, .v (.bool b2.2))], ⟨[(0, .blk 85 (arrSV b1.2.1)), (6, .blk 67 [iv (((l.getD (Int.toNat b1.1) default).ready)), iv (((l.getD (Int.toNat b1.1) default).due)), iv (((l.getD (Int.toNat b1.1) default).hours)), iv (((l.getD (Int.toNat b1.1) default).heat))])], (stream_hours_plan_R l), [(0, ⟨3, 1, b1.2.2.length, b1.2.2.flatMap (fun x => [.int .i64 x])⟩)]⟩⟩) (r1.1, r1.2) (fun b hb => by have hb : none = some lr2 := hb; cases hb) ?_ _ _ _ _ e3 (St.cast (P := Go.Proofs.Try.prog) [] [] [1, 2, 3, 7, 13, 14, 15, 9, 8, 10, 11] [0, 6] [0] _ [] (by kernel_rfl) trivial S)
        clear e3 S
        intro n b2 E a w h ih S
        rw [stream_hours_plan_l2] at h
        refine wp_seq ?_
        refine sym_seq lay_ok mixed [] [1, 2, 3, 7, 13, 14, 15, 9, 8, 10, 29] [0, 6] (⟨[(1, .sl 0), (2, iv (by')), (3, .own 0 0), (7, .gr 0), (13, .sl 0), (14, iv (((l.length : Nat) : Int))), (15, iv (b1.1)), (9, .own 6 0), (8, iv (b1.1)), (10, iv (b2.1)), (29, .v (.bool b2.2))], ⟨[(0, .blk 85 (arrSV b1.2.1)), (6, .blk 67 [iv (((l.getD (Int.toNat b1.1) default).ready)), iv (((l.getD (Int.toNat b1.1) default).due)), iv (((l.getD (Int.toNat b1.1) default).hours)), iv (((l.getD (Int.toNat b1.1) default).heat))])], (stream_hours_plan_R l), [(0, ⟨3, 1, b1.2.2.length, b1.2.2.flatMap (fun x => [.int .i64 x])⟩)]⟩⟩) [] S (by kernel_rfl) (by kernel_rfl) (by kernel_rfl) trivial ?_
        clear S; intro E a w S
        refine sym_if_last (b := b2.2) S rfl (fun hb2 => ?_) (fun hb2 => ?_)
        · have h := bif_t hb2 h
          refine wp_skip ?_
          refine out_then_normal ?_
          refine wp_seq ?_
          refine wp_block ?_
          obtain ⟨r2, e4, h⟩ := bind_some h
          refine sym_seq lay_ok mixed [(3, { res := .agg (arrSV r2) }), (4, { g := 9 })] [1, 2, 3, 7, 13, 14, 15, 9, 8, 10, 12] [0, 6, 9] (⟨[(1, .sl 0), (2, iv (by')), (3, .own 0 0), (7, .gr 0), (13, .sl 0), (14, iv (((l.length : Nat) : Int))), (15, iv (b1.1)), (9, .own 6 0), (8, iv (b1.1)), (10, iv (b2.1)), (12, .own 9 0)], ⟨[(0, .blk 85 (arrSV b1.2.1)), (6, .blk 67 [iv (((l.getD (Int.toNat b1.1) default).ready)), iv (((l.getD (Int.toNat b1.1) default).due)), iv (((l.getD (Int.toNat b1.1) default).hours)), iv (((l.getD (Int.toNat b1.1) default).heat))]), (9, .blk 85 (arrSV r2))], (stream_hours_plan_R l), [(0, ⟨3, 1, b1.2.2.length, b1.2.2.flatMap (fun x => [.int .i64 x])⟩)]⟩⟩) [.call ⟨[], (stream_hours_plan_R l), [(0, ⟨3, 1, b1.2.2.length, b1.2.2.flatMap (fun x => [.int .i64 x])⟩)]⟩ 63 [.agg (arrSV b1.2.1), .agg [iv (((l.getD (Int.toNat b1.1) default).ready)), iv (((l.getD (Int.toNat b1.1) default).due)), iv (((l.getD (Int.toNat b1.1) default).hours)), iv (((l.getD (Int.toNat b1.1) default).heat))], iv (b2.1)] (.agg (arrSV r2))] S (by kernel_rfl) (by kernel_rfl) (by kernel_rfl) ⟨⟨enters_63, fun E W _ hm => by simp only [SV.vals, SV.val, arr_valsA]; exact stream_hours_without_ok fuel b1.2.1 (l.getD (Int.toNat b1.1) default) b2.1 W r2 e4⟩, trivial⟩ ?_
          clear S; intro E a w S
          obtain ⟨⟨g2, g3⟩, h⟩ := grd_some h
          obtain ⟨r3, e5, h⟩ := bind_some h
          refine sym_seq lay_ok mixed [(6, { res := .v (.bool r3) })] [1, 2, 3, 7, 13, 14, 15, 9, 8, 10, 12, 49] [0, 6, 9] (⟨[(1, .sl 0), (2, iv (by')), (3, .own 0 0), (7, .gr 0), (13, .sl 0), (14, iv (((l.length : Nat) : Int))), (15, iv (b1.1)), (9, .own 6 0), (8, iv (b1.1)), (10, iv (b2.1)), (12, .own 9 0), (49, .v (.bool r3))], ⟨[(0, .blk 85 (arrSV b1.2.1)), (6, .blk 67 [iv (((l.getD (Int.toNat b1.1) default).ready)), iv (((l.getD (Int.toNat b1.1) default).due)), iv (((l.getD (Int.toNat b1.1) default).hours)), iv (((l.getD (Int.toNat b1.1) default).heat))]), (9, .blk 85 (arrSV r2))], (stream_hours_plan_R l), [(0, ⟨3, 1, b1.2.2.length, b1.2.2.flatMap (fun x => [.int .i64 x])⟩)]⟩⟩) [.rng .i64 (b1.1 + 1), .sub (b1.1 + 1) ((l.length : Nat) : Int) l.length, .call ⟨[], (stream_hours_plan_R l), [(0, ⟨3, 1, b1.2.2.length, b1.2.2.flatMap (fun x => [.int .i64 x])⟩)]⟩ 49 [.agg (arrSV r2), .sub 0 (Int.toNat (b1.1 + 1)) l.length, iv (by')] (.v (.bool r3))] S (by kernel_rfl) (by kernel_rfl) (by kernel_rfl) ⟨rngI64 g2, g3, ⟨enters_49, fun E W _ hm => by obtain ⟨A0, c0, q0, l0, s0, _⟩ := Mem.subM hm (s := 0) rfl (Int.toNat (b1.1 + 1)) l.length ((l.drop (Int.toNat (b1.1 + 1))).take (l.length - (Int.toNat (b1.1 + 1)))).length (fun i => bZ (((l.drop (Int.toNat (b1.1 + 1))).take (l.length - (Int.toNat (b1.1 + 1)))).getD i default)) (show (Int.toNat (b1.1 + 1)) ≤ l.length by have := g3; omega) (show l.length ≤ l.length by have := g3; omega) (sub_len _ _ _ (by have := g3; omega)) (fun i hi => by simp only [sub_getD _ _ _ _ hi]); simp only [SV.vals, SV.val, arr_valsA, q0]; exact stream_hours_hasPlan_ok fuel r2 ((l.drop (Int.toNat (b1.1 + 1))).take (l.length - (Int.toNat (b1.1 + 1)))) by' W A0 c0 l0 s0 r3 e5⟩, trivial⟩ ?_
          clear S; intro E a w S
          refine sym_if_last (b := r3) S rfl (fun hb3 => ?_) (fun hb3 => ?_)
          · have h := bif_t hb3 h
            obtain ⟨g4, h⟩ := grd_some h
            refine wp_seq ?_
            have hb12 := S.mem.blk 9 _ _ rfl
            rw [arr_valsA] at hb12
            have ht12 := S.slot 12 _ rfl
            obtain ⟨b12, hbe⟩ : ∃ b, b = E.ρ 9 := ⟨_, rfl⟩
            simp only [SV.val] at ht12
            rw [← hbe] at hb12 ht12
            clear hbe
            refine wp_region_held (S := fun w => Blk w b12 85 (arrV r2)) mixed ?_
            have S1 : St _ _ E a { w with drawn := w.drawn + 1 } := StF.later S ⟨rfl, rfl, rfl, Nat.le_refl _, fun _ _ => rfl⟩
            have hb1 : Blk { w with drawn := w.drawn + 1 } b12 85 (arrV r2) := hb12
            generalize ({ w with drawn := w.drawn + 1 } : World) = w1 at S1 hb1 ⊢
            clear S hb12
            show wpAnyH _ _ _ _ _ (6 + 1) _ _ _
            refine wpAnyH_take (i := 0) (v := .agg (arrV r2)) rfl (by kernel_rfl) (by kernel_rfl) (by kernel_rfl) (by intro c a w h; exact h) (.inl ⟨rfl, fun w hw => ?_⟩) hb1 ?_
            · have e9 : a.eval (.tmp 12) = .pointer (some ⟨b12, 0, none⟩) := by simp [Act.eval, ht12]
              change Sem.run _ (execOp a.eval { dst := some 50, op := .load 85 (.tmp 12), type := 85, pos := _, after := #[], guard := none }) w = _
              simp only [execOp, e9, Sem.run_bind, run_ldArr lay_ok (t := 85) rfl rfl rfl hw, Result.andThen_ok, Sem.run_pure]
            have S2 := S1.put (d := 50) (by kernel_rfl) (.agg (arrSV r2))
            simp only [SV.val, arr_valsA] at S2
            replace ht12 := tmps_put (a' := a.put (some 50) (.agg (arrV r2))) ⟨_, rfl⟩ (by decide) ht12
            show wpAnyH _ _ _ _ _ (5 + 1) _ (a.put (some 50) (.agg (arrV r2))) _
            generalize a.put (some 50) (.agg (arrV r2)) = a at S2 ht12 ⊢
            clear S1
            have t7 := S2.slot 7 _ rfl
            refine wpAnyH_take (i := 1) (v := E.gr 0) rfl (by kernel_rfl) (by kernel_rfl) (by kernel_rfl) (by intro c a w h; exact h) (.inl ⟨rfl, fun w _ => by simp [execOp, Act.eval, t7, SV.val]⟩) hb1 ?_
            have S3 := S2.put (d := 51) (by kernel_rfl) (.gr 0)
            simp only [SV.val] at S3
            replace ht12 := tmps_put (a' := a.put (some 51) (E.gr 0)) ⟨_, rfl⟩ (by decide) ht12
            show wpAnyH _ _ _ _ _ (4 + 1) _ (a.put (some 51) (E.gr 0)) _
            generalize a.put (some 51) (E.gr 0) = a at S3 ht12 ⊢
            clear S2 t7
            have t10 := S3.slot 10 _ rfl
            refine wpAnyH_take (i := 2) (v := .int .i64 b2.1) rfl (by kernel_rfl) (by kernel_rfl) (by kernel_rfl) (by intro c a w h; exact h) (.inl ⟨rfl, fun w _ => by simp [execOp, Act.eval, t10, SV.val]⟩) hb1 ?_
            have S4 := S3.put (d := 52) (by kernel_rfl) (iv (b2.1))
            simp only [SV.val] at S4
            replace ht12 := tmps_put (a' := a.put (some 52) (.int .i64 b2.1)) ⟨_, rfl⟩ (by decide) ht12
            show wpAnyH _ _ _ _ _ (3 + 1) _ (a.put (some 52) (.int .i64 b2.1)) _
            generalize a.put (some 52) (.int .i64 b2.1) = a at S4 ht12 ⊢
            clear S3 t10
            refine wpAnyH_all (rs := [3]) (by kernel_rfl) (by simp) (fun i hi => ?_)
            obtain rfl : i = 3 := by simpa using hi
            refine wpOp_eval lay_ok rfl rfl { g := 10 } ⟨some 53, .row 10 0 1 1, some (10, .blk 3 [iv (b2.1)]), true⟩ [] (by kernel_rfl) trivial S4 (fun d he => by cases he; exact Nat.lt_of_succ_le (Nat.le_of_ble_eq_true rfl)) fun E5 a5 w5 S5 htr => ?_
            have ht5 := tmps_put htr (by decide) ht12
            refine ⟨(by have h9 := S5.mem.blk 9 _ _ rfl; rw [arr_valsA, S5.at_slot (t := 12) rfl ht5] at h9; exact h9), ?_⟩
            clear htr S4 ht12 hb1
            show wpAnyH _ _ _ _ _ (2 + 1) _ _ _
            refine wpAnyH_all (rs := [4]) (by kernel_rfl) (by simp) (fun i hi => ?_)
            obtain rfl : i = 4 := by simpa using hi
            refine wpOp_list rfl rfl (sym_append lay_ok rfl (.tmp 51) (.tmp 53) 33 rfl rfl S5 0 10 0 1 1 3 [iv (b2.1)] ⟨3, 1, b1.2.2.length, b1.2.2.flatMap (fun x => [.int .i64 x])⟩ ⟨.int .i64, 1, [.int .i64 0], false, 8⟩ ⟨.sli 3 1, 1, [.slice none 0 0], false, 24⟩ rfl rfl rfl rfl rfl rfl rfl rfl (show 0 < 1 by decide) rfl rfl (fun e he => by cases he; exact Nat.lt_of_succ_le (Nat.le_of_ble_eq_true rfl)) ⟨3, 1, (b1.2.2 ++ [b2.1]).length, (b1.2.2 ++ [b2.1]).flatMap (fun x => [.int .i64 x])⟩ rfl rfl (by simp) (fun E => by simp [SV.vals, SV.val]) (Nat.le_trans g4 (by decide)) (show (b1.2.2.length + 1) * 8 ≤ 140737488355328 by have := g4; omega) rfl fun v0 E6 a6 w6 S6 => ?_)
            intro htr
            have ht6 := tmps_put htr (by decide) ht5
            have S6 := St.pickG S6 [50, 1, 2, 3, 13, 14, 15, 12, 54] [0, 6, 9] [0] (⟨[(50, .agg (arrSV r2)), (1, .sl 0), (2, iv (by')), (3, .own 0 0), (13, .sl 0), (14, iv (((l.length : Nat) : Int))), (15, iv (b1.1)), (12, .own 9 0), (54, .gr 0)], ⟨[(0, .blk 85 (arrSV b1.2.1)), (6, .blk 67 [iv (((l.getD (Int.toNat b1.1) default).ready)), iv (((l.getD (Int.toNat b1.1) default).due)), iv (((l.getD (Int.toNat b1.1) default).hours)), iv (((l.getD (Int.toNat b1.1) default).heat))]), (9, .blk 85 (arrSV r2))], (stream_hours_plan_R l), [(0, ⟨3, 1, (b1.2.2 ++ [b2.1]).length, (b1.2.2 ++ [b2.1]).flatMap (fun x => [.int .i64 x])⟩)]⟩⟩) (by kernel_rfl)
            refine ⟨(by have h9 := S6.mem.blk 9 _ _ rfl; rw [arr_valsA, S6.at_slot (t := 12) rfl ht6] at h9; exact h9), ?_⟩
            clear htr S5 ht5
            show wpAnyH _ _ _ _ _ (1 + 1) _ _ _
            refine wpAnyH_all (rs := [5]) (by kernel_rfl) (by simp) (fun i hi => ?_)
            obtain rfl : i = 5 := by simpa using hi
            refine wpOp_eval lay_ok rfl rfl {} ⟨none, .v undef, some (0, .blk 85 (arrSV r2)), false⟩ [] (by kernel_rfl) trivial S6 (fun d he => by cases he) fun E7 a7 w7 S7 htr => ?_
            have ht7 : a7.tmps[12]? = some (.pointer (some ⟨b12, 0, none⟩)) := by obtain ⟨v, e9⟩ := htr; rw [e9]; exact ht6
            have S7 := St.pickG S7 [50, 1, 2, 3, 13, 14, 15, 12, 54] [0, 6, 9] [0] (⟨[(50, .agg (arrSV r2)), (1, .sl 0), (2, iv (by')), (3, .own 0 0), (13, .sl 0), (14, iv (((l.length : Nat) : Int))), (15, iv (b1.1)), (12, .own 9 0), (54, .gr 0)], ⟨[(0, .blk 85 (arrSV r2)), (6, .blk 67 [iv (((l.getD (Int.toNat b1.1) default).ready)), iv (((l.getD (Int.toNat b1.1) default).due)), iv (((l.getD (Int.toNat b1.1) default).hours)), iv (((l.getD (Int.toNat b1.1) default).heat))]), (9, .blk 85 (arrSV r2))], (stream_hours_plan_R l), [(0, ⟨3, 1, (b1.2.2 ++ [b2.1]).length, (b1.2.2 ++ [b2.1]).flatMap (fun x => [.int .i64 x])⟩)]⟩⟩) (by kernel_rfl)
            refine ⟨(by have h9 := S7.mem.blk 9 _ _ rfl; rw [arr_valsA, S7.at_slot (t := 12) rfl ht7] at h9; exact h9), ?_⟩
            clear htr S6 ht6
            show wpAnyH _ _ _ _ _ (0 + 1) _ _ _
            refine wpAnyH_all (rs := [6]) (by kernel_rfl) (by simp) (fun i hi => ?_)
            obtain rfl : i = 6 := by simpa using hi
            refine wpOp_eval lay_ok rfl rfl {} ⟨some 7, .gr 0, none, false⟩ [] (by kernel_rfl) trivial S7 (fun d he => by cases he; exact Nat.lt_of_succ_le (Nat.le_of_ble_eq_true rfl)) fun E8 a8 w8 S8 htr => ?_
            have ht8 := tmps_put htr (by decide) ht7
            refine ⟨(by have h9 := S8.mem.blk 9 _ _ rfl; rw [arr_valsA, S8.at_slot (t := 12) rfl ht8] at h9; exact h9), ?_⟩
            refine wpAnyH_done (by kernel_rfl) ?_ _
            have S := St.pickG S8 [1, 2, 3, 13, 14, 15, 7] [0] [0] (⟨[(1, .sl 0), (2, iv (by')), (3, .own 0 0), (13, .sl 0), (14, iv (((l.length : Nat) : Int))), (15, iv (b1.1)), (7, .gr 0)], ⟨[(0, .blk 85 (arrSV r2))], (stream_hours_plan_R l), [(0, ⟨3, 1, (b1.2.2 ++ [b2.1]).length, (b1.2.2 ++ [b2.1]).flatMap (fun x => [.int .i64 x])⟩)]⟩⟩) (by kernel_rfl)
            clear htr ht7 ht8 S7 S8
            refine out_then_normal ?_
            refine wp_exit ?_
            refine out_block_exit (by decide) ?_
            refine out_then_exit ?_
            refine out_then_exit ?_
            refine out_block_exit (by decide) ?_
            refine out_then_exit ?_
            refine out_block_here ?_
            have hr := Option.some.inj h
            subst hr
            exact hG _ _ ⟨_, (r2, (b1.2.2 ++ [b2.1])), hp2, St.cast (P := Go.Proofs.Try.prog) [] [] [1, 2, 3, 13, 14, 15, 7] [0] [0] _ [] (by kernel_rfl) trivial S⟩
          · have h := bif_f hb3 h
            refine wp_skip ?_
            refine out_block_normal ?_
            refine out_then_normal ?_
            obtain ⟨g5, h⟩ := grd_some h
            obtain ⟨r4, e6, h⟩ := bind_some h
            refine sym_last lay_ok mixed [(5, { res := .tup [iv (r4.1), .v (.bool r4.2)] })] [1, 2, 3, 7, 13, 14, 15, 9, 8, 10, 11] [0, 6] (⟨[(1, .sl 0), (2, iv (by')), (3, .own 0 0), (7, .gr 0), (13, .sl 0), (14, iv (((l.length : Nat) : Int))), (15, iv (b1.1)), (9, .own 6 0), (8, iv (b1.1)), (10, iv (r4.1)), (11, .v (.bool r4.2))], ⟨[(0, .blk 85 (arrSV b1.2.1)), (6, .blk 67 [iv (((l.getD (Int.toNat b1.1) default).ready)), iv (((l.getD (Int.toNat b1.1) default).due)), iv (((l.getD (Int.toNat b1.1) default).hours)), iv (((l.getD (Int.toNat b1.1) default).heat))])], (stream_hours_plan_R l), [(0, ⟨3, 1, b1.2.2.length, b1.2.2.flatMap (fun x => [.int .i64 x])⟩)]⟩⟩) [.rng .i64 (b2.1 + 1), .call ⟨[], (stream_hours_plan_R l), [(0, ⟨3, 1, b1.2.2.length, b1.2.2.flatMap (fun x => [.int .i64 x])⟩)]⟩ 62 [.agg (arrSV b1.2.1), .agg [iv (((l.getD (Int.toNat b1.1) default).ready)), iv (((l.getD (Int.toNat b1.1) default).due)), iv (((l.getD (Int.toNat b1.1) default).hours)), iv (((l.getD (Int.toNat b1.1) default).heat))], iv ((b2.1 + 1)), iv (by')] (.tup [iv (r4.1), .v (.bool r4.2)])] S (by kernel_rfl) (by kernel_rfl) (by kernel_rfl) ⟨rngI64 g5, ⟨enters_62, fun E W _ hm => by simp only [SV.vals, SV.val, arr_valsA]; exact stream_hours_start_ok fuel b1.2.1 (l.getD (Int.toNat b1.1) default) (b2.1 + 1) by' W r4 e6⟩, trivial⟩ ?_
            clear S; intro E a w S
            refine out_then_normal ?_
            exact ih (r4.1, r4.2) _ _ _ h (St.cast (P := Go.Proofs.Try.prog) [] [] [1, 2, 3, 7, 13, 14, 15, 9, 8, 10, 11] [0, 6] [0] _ [] (by kernel_rfl) trivial S)
        · have h := bif_f hb2 h
          refine wp_exit ?_
          refine out_then_exit ?_
          refine out_then_exit ?_
          refine out_block_here ?_
          refine out_then_normal ?_
          have hr := Option.some.inj h
          subst hr
          exact ⟨_, (b1.2.1, b1.2.2), hp2, St.cast (P := Go.Proofs.Try.prog) [] [] [1, 2, 3, 13, 14, 15, 7] [0] [0] _ [] (by kernel_rfl) trivial S⟩
    · have h := bif_f hb1 h
      refine wp_exit ?_
      refine out_then_exit ?_
      refine out_then_exit ?_
      refine out_block_here ?_
      refine out_then_normal ?_
      have hr := Option.some.inj h
      subst hr
      exact ⟨_, b1.2.2, hp1, St.cast (P := Go.Proofs.Try.prog) [] [] [7] [] [0] _ [] (by kernel_rfl) trivial S⟩
  clear e1 S
  rintro a w ⟨E, x1, h, S⟩
  rw [stream_hours_plan_k1] at h
  refine out_then_normal ?_
  refine sym_seq lay_ok mixed [] [6] [] (⟨[(6, .gr 0)], ⟨[], (stream_hours_plan_R l), [(0, ⟨3, 1, x1.length, x1.flatMap (fun x => [.int .i64 x])⟩)]⟩⟩) [] S (by kernel_rfl) (by kernel_rfl) (by kernel_rfl) trivial ?_
  clear S; intro E a w S
  refine wp_ret ?_
  refine out_scope_ret ?_
  have h := Option.some.inj h
  subst h
  exact sym_ret lay_ok [.gr 0] (by kernel_rfl) rfl S ⟨vfun [E.gr 0], rfl, S.below rfl, vfun_one [E.gr 0] ⟨(S.gr_one (k := 0) rfl), trivial⟩, (((S.mem.gr 0 _ rfl).slice (S.gr_new rfl (k := 0) rfl) 0 (vfun [E.gr 0]) rfl _ (flat_get (fun x => [.int .i64 x]) 1 (fun _ => rfl) x1)).and (HeldIn.true fun _ => trivial))⟩
end Go.Proofs.Ytlcccomdijdkaaa
namespace Go.Proofs.Ytlcccomdijdkaaa
open Go.RowKit Go.Proofs.Try

def stream_Runs_R (room : List Int) (l : List MBurner) : List (Nat × Q) := [(0, (iQZ room)), (1, (bQZ l))]
def stream_Runs (fuel : Nat) (room : List Int) (l : List MBurner) : Option (List Int × Int) :=
(stream_validRuns fuel l ((room.length : Nat) : Int)).bind fun (r1 : Bool) =>
((bif (!(!r1)) then stream_validRoom fuel room else some default)).bind fun (r2 : Bool) =>
(bif ((!r1) || (!r2)) then
(some ([], 1))
else
(grd ((room.length ≤ 168)) <|
grd (InI64 (((room.length : Nat) : Int) + 1)) <|
(searchRuns fuel (arrCopy (List.replicate 168 0) room) l (((room.length : Nat) : Int) + 1)).bind fun (r9 : Int) =>
(bif decide (((room.length : Nat) : Int) < r9) then
(some ([], 4))
else
((stream_hours_plan fuel (arrCopy (List.replicate 168 0) room) l r9).bind fun (r3 : (List Int)) =>
some (r3, 0)))))
set_option maxRecDepth 100000 in
set_option maxHeartbeats 4000000 in
theorem stream_Runs_ok (fuel : Nat) (room : List Int) (l : List MBurner) (W : World) (A0 : Option Addr) (c0 : Nat) (h0 : room.length ≤ c0) (s0 : SlAt W A0 room.length 1 fun i => [.int .i64 (room.getD i default)]) (A1 : Option Addr) (c1 : Nat) (h1 : l.length ≤ c1) (s1 : SlAt W A1 l.length 4 fun i => bZ (l.getD i default)) (res : List Int × Int) (h : stream_Runs fuel room l = some res) :
    Calls Go.Proofs.Try.prog 21 #[.slice A0 room.length c0, .slice A1 l.length c1] W fun e w' => ∃ v : Nat → Value, e = .returned (.tuple #[v 0, .int .i64 res.2]) ∧ Below W.heap.size W w' ∧ (∀ i, (v i).oneCell' = true) ∧ HeldIn (fun k => W.heap.size ≤ k) w' (SlicesAre 0 [(iQZ res.1)] v) := by
  refine sym_call (f := 21) (fn := Go.Proofs.Try.f21) (c := Go.Proofs.Try.f21.body.get rfl) Go.Proofs.Try.func21 rfl [.sl 0, .sl 1] (stream_Runs_R room l) [] (envOf [(0, ⟨A0, room.length, c0, 1⟩), (1, ⟨A1, l.length, c1, 4⟩)]) allR (fun _ _ => rfl) (by kernel_rfl) (envOf_one trivial) ⟨s0.rd h0, s1.rd h1, trivial⟩ (AllRR.all _ _) trivial fun E a w S => ?_
  rw [stream_Runs] at h
  refine sym_seq lay_ok mixed [(0, { g := 0 })] [0, 3] [0] (⟨[(0, .sl 0), (3, .own 0 0)], ⟨[(0, .blk 42 [.sl 1])], (stream_Runs_R room l), []⟩⟩) [] S (by kernel_rfl) (by kernel_rfl) (by kernel_rfl) trivial ?_
  clear S; intro E a w S
  refine wp_seq ?_
  obtain ⟨r1, e1, h⟩ := bind_some h
  obtain ⟨r2, e2, h⟩ := bind_some h
  refine sym_seq lay_ok mixed [(3, { res := .v (.bool r1) }), (6, { og := true }), (7, { og := true, res := .v (.bool r2) }), (8, { og := true }), (9, { pk := true })] [0, 3, 17] [0] (⟨[(0, .sl 0), (3, .own 0 0), (17, .v (.bool ((!r1) || (!r2))))], ⟨[(0, .blk 42 [.sl 1])], (stream_Runs_R room l), []⟩⟩) [.call ⟨[], (stream_Runs_R room l), []⟩ 46 [.sl 1, iv (((room.length : Nat) : Int))] (.v (.bool r1)), .imp (!(!r1)) (!(!r1)), .when (!(!r1)) (.call ⟨[], (stream_Runs_R room l), []⟩ 47 [.sl 0] (.v (.bool r2))), .imp (!(!r1)) (!(!r1)), .imp (!(!r1)) (!(!r1))] S (by kernel_rfl) (by kernel_rfl) (by kernel_rfl) ⟨⟨enters_46, fun E W _ hm => by obtain ⟨A0, c0, q0, l0, s0, _⟩ := Mem.sl hm (s := 1) rfl; simp only [SV.vals, SV.val, q0]; exact stream_validRuns_ok fuel l ((room.length : Nat) : Int) W A0 c0 l0 s0 r1 e1⟩, fun h => h, fun hW => ⟨enters_47, fun E W _ hm => by obtain ⟨A0, c0, q0, l0, s0, _⟩ := Mem.sl hm (s := 0) rfl; simp only [SV.vals, SV.val, q0]; exact stream_validRoom_ok fuel room W A0 c0 l0 s0 r2 (bif_t hW e2)⟩, fun h => h, fun h => h, trivial⟩ ?_
  clear S; intro E a w S
  refine sym_if_last (b := ((!r1) || (!r2))) S rfl (fun hb1 => ?_) (fun hb1 => ?_)
  · have h := bif_t hb1 h
    refine sym_seq lay_ok mixed [] [4, 5] [] (⟨[(4, .v (.slice none 0 0)), (5, iv (1))], ⟨[], (stream_Runs_R room l), []⟩⟩) [] S (by kernel_rfl) (by kernel_rfl) (by kernel_rfl) trivial ?_
    clear S; intro E a w S
    refine wp_ret ?_
    refine out_then_ret ?_
    have h := Option.some.inj h
    subst h
    exact sym_ret lay_ok [.v (.slice none 0 0), iv (1)] (by kernel_rfl) rfl S ⟨vfun [.slice none 0 0], rfl, S.below rfl, vfun_one [.slice none 0 0] ⟨rfl, trivial⟩, ((HeldIn.true fun _ => ⟨_, _, rfl, Nat.le_refl _, SlAt.nil⟩).and (HeldIn.true fun _ => trivial))⟩
  · have h := bif_f hb1 h
    refine wp_skip ?_
    refine out_then_normal ?_
    refine sym_seq lay_ok mixed [(0, { g := 1 })] [0, 3, 6] [0, 1] (⟨[(0, .sl 0), (3, .own 0 0), (6, .own 1 0)], ⟨[(0, .blk 42 [.sl 1]), (1, .blk 85 (arrSV (List.replicate 168 0)))], (stream_Runs_R room l), []⟩⟩) [] S (by kernel_rfl) (by kernel_rfl) (by kernel_rfl) trivial ?_
    clear S; intro E a w S
    obtain ⟨g1, h⟩ := grd_some h
    refine sym_open ?_
    refine sym_runP lay_ok [(0, { px := some (.row 1 0 168 168) })] 0 2 [0, 3, 6, 18, 19] [0, 1] (⟨[(0, .sl 0), (3, .own 0 0), (6, .own 1 0), (18, .row 1 0 168 168), (19, .sl 0)], ⟨[(0, .blk 42 [.sl 1]), (1, .blk 85 (arrSV (List.replicate 168 0)))], (stream_Runs_R room l), []⟩⟩) [.pure ⟨[], (stream_Runs_R room l), []⟩ (.slice 85 (.tmp 6) none none none) [.own 1 0] (.row 1 0 168 168)] S (by kernel_rfl) (by kernel_rfl) ⟨pure_sliceArr lay_ok rfl, trivial⟩ ?_
    clear S; intro E a w S
    refine sym_copyArr lay_ok rfl (.tmp 18) (.tmp 19) 33 rfl rfl S 1 85 0 (List.replicate 168 0) room (iQZ room) rfl ⟨.int .i64, 1, [.int .i64 0], false, 8⟩ rfl rfl rfl rfl rfl rfl rfl g1 (fun e he => by cases he; exact Nat.lt_of_succ_le (Nat.le_of_ble_eq_true rfl)) ?_
    clear S; intro a w S; have S := St.pickG S [0, 3, 6] [1, 0] [] (⟨[(0, .sl 0), (3, .own 0 0), (6, .own 1 0)], ⟨[(1, .blk 85 (arrSV (arrCopy (List.replicate 168 0) room))), (0, .blk 42 [.sl 1])], (stream_Runs_R room l), []⟩⟩) (by kernel_rfl)
    refine sym_done rfl ?_
    refine out_then_normal ?_
    have S := St.pickG S [0, 3, 6] [1, 0] [] (⟨[(0, .sl 0), (3, .own 0 0), (6, .own 1 0)], ⟨[(1, .blk 85 (arrSV (arrCopy (List.replicate 168 0) room))), (0, .blk 42 [.sl 1])], (stream_Runs_R room l), []⟩⟩) (by kernel_rfl)
    obtain ⟨g2, h⟩ := grd_some h
    refine wp_seq ((wpIn_wide (n := 0)).1 (sym_openI (ro := none) ?_))
    refine sym_runI lay_ok [] 0 4 (⟨[(24, .fn 48 [.own 1 0, .own 0 0]), (23, iv ((((room.length : Nat) : Int) + 1))), (22, iv (((room.length : Nat) : Int))), (21, .sl 0), (0, .sl 0), (3, .own 0 0), (6, .own 1 0)], ⟨[(1, .blk 85 (arrSV (arrCopy (List.replicate 168 0) room))), (0, .blk 42 [.sl 1])], (stream_Runs_R room l), []⟩⟩) [.rng .i64 (((room.length : Nat) : Int) + 1)] S (by kernel_rfl) (by kernel_rfl) (by kernel_rfl) ⟨rngI64 g2, trivial⟩ ?_
    clear S; intro E a w S
    obtain ⟨r9, e9, h⟩ := bind_some h
    have hrd := S.mem.rd 1 _ rfl
    have hap : ∀ k, Apart W.heap.size allR (look (⟨[(24, .fn 48 [.own 1 0, .own 0 0]), (23, iv ((((room.length : Nat) : Int) + 1))), (22, iv (((room.length : Nat) : Int))), (21, .sl 0), (0, .sl 0), (3, .own 0 0), (6, .own 1 0)], ⟨[(1, .blk 85 (arrSV (arrCopy (List.replicate 168 0) room))), (0, .blk 42 [.sl 1])], (stream_Runs_R room l), []⟩⟩ : SState).m.blks) (⟨[(24, .fn 48 [.own 1 0, .own 0 0]), (23, iv ((((room.length : Nat) : Int) + 1))), (22, iv (((room.length : Nat) : Int))), (21, .sl 0), (0, .sl 0), (3, .own 0 0), (6, .own 1 0)], ⟨[(1, .blk 85 (arrSV (arrCopy (List.replicate 168 0) room))), (0, .blk 42 [.sl 1])], (stream_Runs_R room l), []⟩⟩ : SState).m.grs E k → k ≠ E.ρ 1 ∧ k ≠ E.ρ 0 ∧ True := fun k hk => ⟨fun e => hk.1 (.inl ⟨1, _, _, rfl, e.symm⟩), fun e => hk.1 (.inl ⟨0, _, _, rfl, e.symm⟩), trivial⟩
    have r0 : InR (fun k => k ≠ E.ρ 1 ∧ k ≠ E.ρ 0 ∧ True) (E.sl 1).A l.length := fun b off hl hA => hap b (S.sep.rd 1 _ b off rfl hl hA)
    have hL : HeldIn allR w (UBox (arrCopy (List.replicate 168 0) room) l (vfun [.pointer (some ⟨E.ρ 1, 0, none⟩), .pointer (some ⟨E.ρ 0, 0, none⟩)])) := by
      have h1 := (HeldIn.mono (R' := allR) (S.own_blk (g := 1) rfl rfl) (fun _ _ _ => trivial)).and ((HeldIn.mono (R' := allR) (S.own_blk (g := 0) rfl rfl) (fun _ _ _ => trivial)).and (HeldIn.mono (R' := allR) (S.rd_held (s := 1) rfl (fun i hi => by simp)) (fun _ _ _ => trivial)))
      refine h1.imp fun w' hw => ⟨_, _, E.sl 1, rfl, rfl, r0, ?_, ?_, hw.2.2⟩
      · have h2 := hw.1
        rw [arr_valsA] at h2
        exact h2
      · have h2 := hw.2.1
        simp only [SV.vals, SV.val, hrd.1] at h2
        exact h2
    refine sym_callI rfl rfl rfl (vs := #[.int .i64 (((room.length : Nat) : Int) + 1), .func (.func 48) #[] #[.pointer (some ⟨E.ρ 1, 0, none⟩), .pointer (some ⟨E.ρ 0, 0, none⟩)]]) ?_ enters_44 (searchRuns_ok fuel (arrCopy (List.replicate 168 0) room) l (((room.length : Nat) : Int) + 1) w (vfun [.pointer (some ⟨E.ρ 1, 0, none⟩), .pointer (some ⟨E.ρ 0, 0, none⟩)]) (vfun_one _ ⟨rfl, rfl, trivial⟩) hL r9 e9) ?_
    · have e1 := S.slot 24 _ rfl
      have e2 := S.slot 23 _ rfl
      simp [Act.eval, e1, e2, SV.val, SV.vals]
    rintro e w' ⟨rfl, hk⟩
    refine .inl ⟨_, rfl, ?_⟩
    have S2 : St _ _ E a w' := StF.later S hk
    have S3 := S2.put (d := 25) (by kernel_rfl) (iv (r9))
    clear S S2
    refine sym_runIP (n := 0) (ro := none) lay_ok [] 5 1 [7, 0, 3, 6] [1, 0] (⟨[(7, iv (r9)), (0, .sl 0), (3, .own 0 0), (6, .own 1 0)], ⟨[(1, .blk 85 (arrSV (arrCopy (List.replicate 168 0) room))), (0, .blk 42 [.sl 1])], (stream_Runs_R room l), []⟩⟩) [] S3 (by kernel_rfl) (by kernel_rfl) (by kernel_rfl) trivial ?_
    clear S3; intro E a w S
    refine sym_doneI rfl ?_
    refine out_then_normal ?_
    refine wp_seq ?_
    refine sym_seq lay_ok mixed [] [7, 3, 6, 29] [1, 0] (⟨[(7, iv (r9)), (3, .own 0 0), (6, .own 1 0), (29, .v (.bool (decide (((room.length : Nat) : Int) < r9))))], ⟨[(1, .blk 85 (arrSV (arrCopy (List.replicate 168 0) room))), (0, .blk 42 [.sl 1])], (stream_Runs_R room l), []⟩⟩) [] S (by kernel_rfl) (by kernel_rfl) (by kernel_rfl) trivial ?_
    clear S; intro E a w S
    refine sym_if_last (b := decide (((room.length : Nat) : Int) < r9)) S rfl (fun hb2 => ?_) (fun hb2 => ?_)
    · have h := bif_t hb2 h
      refine sym_seq lay_ok mixed [] [4, 5] [] (⟨[(4, .v (.slice none 0 0)), (5, iv (4))], ⟨[], (stream_Runs_R room l), []⟩⟩) [] S (by kernel_rfl) (by kernel_rfl) (by kernel_rfl) trivial ?_
      clear S; intro E a w S
      refine wp_ret ?_
      refine out_then_ret ?_
      have h := Option.some.inj h
      subst h
      exact sym_ret lay_ok [.v (.slice none 0 0), iv (4)] (by kernel_rfl) rfl S ⟨vfun [.slice none 0 0], rfl, S.below rfl, vfun_one [.slice none 0 0] ⟨rfl, trivial⟩, ((HeldIn.true fun _ => ⟨_, _, rfl, Nat.le_refl _, SlAt.nil⟩).and (HeldIn.true fun _ => trivial))⟩
    · have h := bif_f hb2 h
      refine wp_skip ?_
      refine out_then_normal ?_
      obtain ⟨r3, e3, h⟩ := bind_some h
      refine sym_seq lay_ok mixed [(3, { g := 2, res := .ltr 2 0, hx := some (SliceNew W.heap.size (iQZ r3)) })] [4, 5] [2] (⟨[(4, .ltr 2 0), (5, iv (0))], ⟨[(2, .held (SliceNew W.heap.size (iQZ r3)))], (stream_Runs_R room l), []⟩⟩) [.callx ⟨[], (stream_Runs_R room l), []⟩ 2 50 [.agg (arrSV (arrCopy (List.replicate 168 0) room)), .sl 1, iv (r9)] (.ltr 2 0) (SliceNew W.heap.size (iQZ r3))] S (by kernel_rfl) (by kernel_rfl) (by kernel_rfl) ⟨⟨enters_50, fun E W _ hm => by obtain ⟨A0, c0, q0, l0, s0, _⟩ := Mem.sl hm (s := 1) rfl; simp only [SV.vals, SV.val, arr_valsA, q0]; exact ((stream_hours_plan_ok fuel (arrCopy (List.replicate 168 0) room) l r9 W A0 c0 l0 s0 r3 e3).mono fun e w' hx => by obtain ⟨v, h1, h2, h3, h4⟩ := hx; exact ⟨v, h1, h2, h3, (SliceNew.of hm.size h4 (by simp)).mono fun _ _ h => .inl h⟩)⟩, trivial⟩ ?_
      clear S; intro E a w S
      refine wp_ret ?_
      have h := Option.some.inj h
      subst h
      exact sym_ret lay_ok [.ltr 2 0, iv (0)] (by kernel_rfl) rfl S ⟨vfun [E.x 2 0], rfl, S.below rfl, vfun_one [E.x 2 0] ⟨(S.mem.one 2 0), trivial⟩, ((SliceNew.back (S.sep.held 2 _ rfl) (u := vfun [E.x 2 0]) (j := 0) rfl (fun i hi => by simp)).and (HeldIn.true fun _ => trivial))⟩
end Go.Proofs.Ytlcccomdijdkaaa
namespace Go.Proofs.Ytlcccomdijdkaaa
open Go.RowKit Go.Proofs.Try

abbrev smp0 : List MPoint := ([(MPoint.mk 2 (MSpan.mk 0 0) (MSpan.mk 0 0) (MSpan.mk 1000000 1200000) (MSpan.mk 0 0)), (MPoint.mk 1 (MSpan.mk 200 200) (MSpan.mk 0 0) (MSpan.mk 0 0) (MSpan.mk 0 0)), (MPoint.mk 0 (MSpan.mk 100 400) (MSpan.mk 12000 14000) (MSpan.mk 0 0) (MSpan.mk 0 0)), (MPoint.mk 3 (MSpan.mk 0 0) (MSpan.mk 5000 6000) (MSpan.mk 0 0) (MSpan.mk 1000 2000))] : List MPoint)
abbrev smQ0 : Q := (pQZ smp0)
abbrev smp1 : List MWater := ([(MWater.mk (MSpan.mk 1000 1200) (MSpan.mk 8833 10200)), (MWater.mk (MSpan.mk 800 1000) (MSpan.mk 8833 10200)), (MWater.mk (MSpan.mk 900 1400) (MSpan.mk 9120 11467)), (MWater.mk (MSpan.mk 900 1400) (MSpan.mk 8296 10921))] : List MWater)
abbrev smQ1 : Q := (wQZ smp1)
abbrev smp2 : List Int := ([0, 1, 2, 3] : List Int)
abbrev smQ2 : Q := (iQZ smp2)
abbrev smp3 : List Int := ([0, 1, 2] : List Int)
abbrev smQ3 : Q := (iQZ smp3)
abbrev smp4 : List Int := ([0, 2] : List Int)
abbrev smQ4 : Q := (iQZ smp4)
def FU : Nat := 1099511627776
def wormtublaw05_awake  : Option Bool :=
grd (((0 : Int) ≤ 0 ∧ (0 : Int) ≤ 1 ∧ 1 ≤ ((smp0.length : Nat) : Int))) <|
grd (((0 : Int) ≤ 2 ∧ (2 : Int) < ((smp1.length : Nat) : Int)) ∧ ((0 : Int) ≤ 3 ∧ (3 : Int) < ((smp1.length : Nat) : Int))) <|
some true
set_option maxRecDepth 100000 in
set_option maxHeartbeats 4000000 in
theorem wormtublaw05_awake_ok  (W : World)  (res : Bool) (h : wormtublaw05_awake  = some res) :
    Calls Go.Proofs.Try.prog 12 #[] W fun e w' => e = .returned (.bool res) ∧ Below W.heap.size W w' := by
  refine sym_call (f := 12) (fn := Go.Proofs.Try.f12) (c := Go.Proofs.Try.f12.body.get rfl) Go.Proofs.Try.func12 rfl [] [] [] (envOf []) allR (fun _ _ => rfl) (by kernel_rfl) (envOf_one trivial) trivial (AllRR.all _ _) trivial fun E a w S => ?_
  rw [wormtublaw05_awake] at h
  refine sym_seq lay_ok mixed [] [] [] (⟨[], ⟨[], [], []⟩⟩) [] S (by kernel_rfl) (by kernel_rfl) (by kernel_rfl) trivial ?_
  clear S; intro E a w S
  refine sym_seq lay_ok mixed [(0, { g := 0, res := .tup [.agg [iv (1000), iv (1200), iv (8000), iv (9000)], .ltr 0 0], hx := some (SlicesAre 0 [smQ0]) }), (4, { g := 1 })] [1, 2] [0, 1] (⟨[(1, .own 1 0), (2, .ltr 0 0)], ⟨[(0, .held (SlicesAre 0 [smQ0])), (1, .blk 25 [iv (1000), iv (1200), iv (8000), iv (9000)])], [], []⟩⟩) [.callx ⟨[], [], []⟩ 0 33 [] (.tup [.agg [iv (1000), iv (1200), iv (8000), iv (9000)], .ltr 0 0]) (SlicesAre 0 [smQ0])] S (by kernel_rfl) (by kernel_rfl) (by kernel_rfl) ⟨⟨enters_33, fun _ W _ hm => ((wormtublaw05_sample_ok  W ((MWater.mk (MSpan.mk 1000 1200) (MSpan.mk 8000 9000)), smp0) (by kernel_rfl)).mono fun e w' hx => by obtain ⟨v, h1, h2, h3, h4⟩ := hx; exact ⟨v, h1, h2, h3, h4.mono fun _ _ h => .inl h⟩)⟩, trivial⟩ ?_
  clear S; intro E a w S
  obtain ⟨E, S⟩ := St.read 0 0 1000 smQ0 (⟨[(1, .own 1 0), (2, .sl 1000)], ⟨[(0, .held (SlicesAre 0 [smQ0])), (1, .blk 25 [iv (1000), iv (1200), iv (8000), iv (9000)])], ((1000, smQ0) :: []), []⟩⟩) rfl (fun v w h => h.1) (by intro _ h; cases h) (by kernel_rfl) (by kernel_rfl) S
  refine sym_seq lay_ok mixed [(2, { g := 2, res := .tup [.ltr 2 0, iv (4), iv (0)], hx := some (SlicesAre 0 [smQ1]) })] [1, 2, 3, 4, 5] [1, 2] (⟨[(1, .own 1 0), (2, .sl 1000), (3, .ltr 2 0), (4, iv (4)), (5, iv (0))], ⟨[(1, .blk 25 [iv (1000), iv (1200), iv (8000), iv (9000)]), (2, .held (SlicesAre 0 [smQ1]))], ((1000, smQ0) :: []), []⟩⟩) [.callx ⟨[], ((1000, smQ0) :: []), []⟩ 2 13 [.agg [iv (1000), iv (1200), iv (8000), iv (9000)], .sl 1000] (.tup [.ltr 2 0, iv (4), iv (0)]) (SlicesAre 0 [smQ1])] S (by kernel_rfl) (by kernel_rfl) (by kernel_rfl) ⟨⟨enters_13, fun E W _ hm => by obtain ⟨A0, c0, q0, l0, s0, _⟩ := Mem.sl hm (s := 1000) rfl; simp only [SV.vals, SV.val, q0]; exact ((stream_Flow_ok (MWater.mk (MSpan.mk 1000 1200) (MSpan.mk 8000 9000)) smp0 W A0 c0 l0 s0 (smp1, 4, 0) (by kernel_rfl)).mono fun e w' hx => by obtain ⟨v, h1, h2, h3, h4⟩ := hx; exact ⟨v, h1, h2, h3, h4.mono fun _ _ h => .inl h⟩)⟩, trivial⟩ ?_
  clear S; intro E a w S
  obtain ⟨E, S⟩ := St.read 2 0 1001 smQ1 (⟨[(1, .own 1 0), (2, .sl 1000), (3, .sl 1001), (4, iv (4)), (5, iv (0))], ⟨[(1, .blk 25 [iv (1000), iv (1200), iv (8000), iv (9000)]), (2, .held (SlicesAre 0 [smQ1]))], ((1001, smQ1) :: ((1000, smQ0) :: [])), []⟩⟩) rfl (fun v w h => h.1) (by intro _ h; cases h) (by kernel_rfl) (by kernel_rfl) S
  refine sym_seq lay_ok mixed [(2, { g := 3, res := .tup [.ltr 3 0, .ltr 3 1, iv (0)], hx := some (SlicesAre 0 [smQ3, smQ2]) })] [1, 2, 3, 4, 5, 6, 7, 8] [1, 3] (⟨[(1, .own 1 0), (2, .sl 1000), (3, .sl 1001), (4, iv (4)), (5, iv (0)), (6, .ltr 3 0), (7, .ltr 3 1), (8, iv (0))], ⟨[(1, .blk 25 [iv (1000), iv (1200), iv (8000), iv (9000)]), (3, .held (SlicesAre 0 [smQ3, smQ2]))], ((1001, smQ1) :: ((1000, smQ0) :: [])), []⟩⟩) [.callx ⟨[], ((1001, smQ1) :: ((1000, smQ0) :: [])), []⟩ 3 15 [.agg [iv (1000), iv (1200), iv (8000), iv (9000)], .sl 1000, iv (8500)] (.tup [.ltr 3 0, .ltr 3 1, iv (0)]) (SlicesAre 0 [smQ3, smQ2])] S (by kernel_rfl) (by kernel_rfl) (by kernel_rfl) ⟨⟨enters_15, fun E W _ hm => by obtain ⟨A0, c0, q0, l0, s0, _⟩ := Mem.sl hm (s := 1000) rfl; simp only [SV.vals, SV.val, q0]; exact ((stream_Warm_ok FU (MWater.mk (MSpan.mk 1000 1200) (MSpan.mk 8000 9000)) smp0 8500 W A0 c0 l0 s0 (smp3, smp2, 0) (by kernel_rfl)).mono fun e w' hx => by obtain ⟨v, h1, h2, h3, h4⟩ := hx; exact ⟨v, h1, h2, h3, h4.mono fun _ _ h => .inl h⟩)⟩, trivial⟩ ?_
  clear S; intro E a w S
  obtain ⟨E, S⟩ := St.read 3 0 1002 smQ3 (⟨[(1, .own 1 0), (2, .sl 1000), (3, .sl 1001), (4, iv (4)), (5, iv (0)), (6, .sl 1002), (7, .ltr 3 1), (8, iv (0))], ⟨[(1, .blk 25 [iv (1000), iv (1200), iv (8000), iv (9000)]), (3, .held (SlicesAre 0 [smQ3, smQ2]))], ((1002, smQ3) :: ((1001, smQ1) :: ((1000, smQ0) :: []))), []⟩⟩) rfl (fun v w h => h.1) (by intro _ h; cases h) (by kernel_rfl) (by kernel_rfl) S
  obtain ⟨E, S⟩ := St.read 3 1 1003 smQ2 (⟨[(1, .own 1 0), (2, .sl 1000), (3, .sl 1001), (4, iv (4)), (5, iv (0)), (6, .sl 1002), (7, .sl 1003), (8, iv (0))], ⟨[(1, .blk 25 [iv (1000), iv (1200), iv (8000), iv (9000)]), (3, .held (SlicesAre 0 [smQ3, smQ2]))], ((1003, smQ2) :: ((1002, smQ3) :: ((1001, smQ1) :: ((1000, smQ0) :: [])))), []⟩⟩) rfl (fun v w h => h.2.1) (by intro _ h; cases h) (by kernel_rfl) (by kernel_rfl) S
  obtain ⟨g1, h⟩ := grd_some h
  refine sym_seq lay_ok mixed [(3, { res := .tup [iv (800000), iv (0)] })] [3, 4, 5, 6, 7, 8, 9, 10] [] (⟨[(3, .sl 1001), (4, iv (4)), (5, iv (0)), (6, .sl 1002), (7, .sl 1003), (8, iv (0)), (9, iv (800000)), (10, iv (0))], ⟨[], ((1003, smQ2) :: ((1002, smQ3) :: ((1001, smQ1) :: ((1000, smQ0) :: [])))), []⟩⟩) [.sub 0 1 smp0.length, .call ⟨[], ((1003, smQ2) :: ((1002, smQ3) :: ((1001, smQ1) :: ((1000, smQ0) :: [])))), []⟩ 19 [.agg [iv (1000), iv (1200), iv (8000), iv (9000)], .sub 1000 0 (Int.toNat 1), iv (1), iv (11000)] (.tup [iv (800000), iv (0)])] S (by kernel_rfl) (by kernel_rfl) (by kernel_rfl) ⟨g1, ⟨enters_19, fun E W _ hm => by obtain ⟨A0, c0, q0, l0, s0, _⟩ := Mem.subM hm (s := 1000) rfl 0 (Int.toNat 1) ((smp0.drop 0).take ((Int.toNat 1) - 0)).length (fun i => pZ (((smp0.drop 0).take ((Int.toNat 1) - 0)).getD i default)) (show 0 ≤ (Int.toNat 1) by have := g1; omega) (show (Int.toNat 1) ≤ smp0.length by have := g1; omega) (sub_len _ _ _ (by have := g1; omega)) (fun i hi => by simp only [sub_getD _ _ _ _ hi]); simp only [SV.vals, SV.val, q0]; exact stream_Room_ok FU (MWater.mk (MSpan.mk 1000 1200) (MSpan.mk 8000 9000)) ((smp0.drop 0).take ((Int.toNat 1) - 0)) 1 11000 W A0 c0 l0 s0 (800000, 0) (by kernel_rfl)⟩, trivial⟩ ?_
  clear S; intro E a w S
  refine sym_seq lay_ok mixed [(0, { g := 4 }), (3, { g := 5 }), (4, { g := 6, fp := [4, 5], res := .tup [.ltr 6 0, iv (0)], hx := some (SlicesAre 0 [smQ4]) })] [3, 4, 5, 6, 7, 8, 9, 10, 11, 12] [6] (⟨[(3, .sl 1001), (4, iv (4)), (5, iv (0)), (6, .sl 1002), (7, .sl 1003), (8, iv (0)), (9, iv (800000)), (10, iv (0)), (11, .ltr 6 0), (12, iv (0))], ⟨[(6, .held (SlicesAre 0 [smQ4]))], ((1003, smQ2) :: ((1002, smQ3) :: ((1001, smQ1) :: ((1000, smQ0) :: [])))), []⟩⟩) [.callx ⟨[(5, .blk 67 [iv (0), iv (4), iv (2), iv (6), iv (0), iv (4), iv (1), iv (5)]), (4, .blk 3 [iv (10), iv (10), iv (5), iv (10)])], ((1003, smQ2) :: ((1002, smQ3) :: ((1001, smQ1) :: ((1000, smQ0) :: [])))), []⟩ 6 21 [.row 4 0 4 4, .row 5 0 2 2] (.tup [.ltr 6 0, iv (0)]) (SlicesAre 0 [smQ4])] S (by kernel_rfl) (by kernel_rfl) (by kernel_rfl) ⟨⟨enters_21, fun E W _ hm => by simp only [SV.vals, SV.val]; exact ((stream_Runs_ok FU ([10, 10, 5, 10]) ([(MBurner.mk 0 4 2 6), (MBurner.mk 0 4 1 5)]) W (some ⟨E.ρ 4, 0, none⟩) 4 (Nat.le_refl _) (SlAt.of_blk (hm.blk 4 _ _ rfl) (lit_get ⟨⟨⟨⟨trivial, rfl⟩, rfl⟩, rfl⟩, rfl⟩)) (some ⟨E.ρ 5, 0, none⟩) 2 (Nat.le_refl _) (SlAt.of_blk (hm.blk 5 _ _ rfl) (lit_get ⟨⟨trivial, rfl⟩, rfl⟩)) (smp4, 0) (by kernel_rfl)).mono fun e w' hx => by obtain ⟨v, h1, h2, h3, h4⟩ := hx; exact ⟨v, h1, h2, h3, h4.mono fun _ _ h => .inl h⟩)⟩, trivial⟩ ?_
  clear S; intro E a w S
  obtain ⟨E, S⟩ := St.read 6 0 1004 smQ4 (⟨[(3, .sl 1001), (4, iv (4)), (5, iv (0)), (6, .sl 1002), (7, .sl 1003), (8, iv (0)), (9, iv (800000)), (10, iv (0)), (11, .sl 1004), (12, iv (0))], ⟨[(6, .held (SlicesAre 0 [smQ4]))], ((1004, smQ4) :: ((1003, smQ2) :: ((1002, smQ3) :: ((1001, smQ1) :: ((1000, smQ0) :: []))))), []⟩⟩) rfl (fun v w h => h.1) (by intro _ h; cases h) (by kernel_rfl) (by kernel_rfl) S
  refine wp_seq ?_
  obtain ⟨⟨g2, g3⟩, h⟩ := grd_some h
  refine sym_seq lay_ok mixed [] [6, 7, 8, 9, 10, 11, 12, 74] [] (⟨[(6, .sl 1002), (7, .sl 1003), (8, iv (0)), (9, iv (800000)), (10, iv (0)), (11, .sl 1004), (12, iv (0)), (74, .v (.bool false))], ⟨[], ((1004, smQ4) :: ((1003, smQ2) :: ((1002, smQ3) :: ((1001, smQ1) :: ((1000, smQ0) :: []))))), []⟩⟩) [.idx 2 (smp1.length), .idx 2 (smp1.length), .idx 3 (smp1.length), .idx 3 (smp1.length)] S (by kernel_rfl) (by kernel_rfl) (by kernel_rfl) ⟨g2, g2, g3, g3, trivial⟩ ?_
  clear S; intro E a w S
  refine sym_if_last (b := false) S rfl (fun hb => absurd hb (by decide)) (fun _ => ?_)
  refine wp_skip ?_
  refine out_then_normal ?_
  refine sym_seq lay_ok mixed [(1, { g := 7 }), (2, { fp := [7], res := .v (.bool true) }), (22, { g := 8 }), (23, { fp := [8], res := .v (.bool true) })] [0] [] (⟨[(0, .v (.bool true))], ⟨[], ((1004, smQ4) :: ((1003, smQ2) :: ((1002, smQ3) :: ((1001, smQ1) :: ((1000, smQ0) :: []))))), []⟩⟩) [.call ⟨[(7, .blk 3 [iv (0), iv (1), iv (2)])], ((1004, smQ4) :: ((1003, smQ2) :: ((1002, smQ3) :: ((1001, smQ1) :: ((1000, smQ0) :: []))))), []⟩ 18 [.sl 1002, .row 7 0 3 3] (.v (.bool true)), .call ⟨[(8, .blk 3 [iv (0), iv (2)])], ((1004, smQ4) :: ((1003, smQ2) :: ((1002, smQ3) :: ((1001, smQ1) :: ((1000, smQ0) :: []))))), []⟩ 18 [.sl 1004, .row 8 0 2 2] (.v (.bool true))] S (by kernel_rfl) (by kernel_rfl) (by kernel_rfl) ⟨⟨enters_18, fun E W _ hm => by obtain ⟨A0, c0, q0, l0, s0, _⟩ := Mem.sl hm (s := 1002) rfl; simp only [SV.vals, SV.val, q0]; exact wormtubref05_Ints_ok FU smp3 ([0, 1, 2]) W A0 c0 l0 s0 (some ⟨E.ρ 7, 0, none⟩) 3 (Nat.le_refl _) (SlAt.of_blk (hm.blk 7 _ _ rfl) (lit_get ⟨⟨⟨trivial, rfl⟩, rfl⟩, rfl⟩)) true (by kernel_rfl)⟩, ⟨enters_18, fun E W _ hm => by obtain ⟨A0, c0, q0, l0, s0, _⟩ := Mem.sl hm (s := 1004) rfl; simp only [SV.vals, SV.val, q0]; exact wormtubref05_Ints_ok FU smp4 ([0, 2]) W A0 c0 l0 s0 (some ⟨E.ρ 8, 0, none⟩) 2 (Nat.le_refl _) (SlAt.of_blk (hm.blk 8 _ _ rfl) (lit_get ⟨⟨trivial, rfl⟩, rfl⟩)) true (by kernel_rfl)⟩, trivial⟩ ?_
  clear S; intro E a w S
  refine wp_ret ?_
  have h := Option.some.inj h
  subst h
  exact sym_ret lay_ok [.v (.bool true)] (by kernel_rfl) rfl S ⟨rfl, S.below rfl⟩
end Go.Proofs.Ytlcccomdijdkaaa
namespace Go.Proofs.Ytlcccomdijdkaaa
open Go.RowKit Go.Proofs.Try

theorem awake_true : wormtublaw05_awake = some true := by kernel_rfl
theorem bind_ok {α β : Type} {x : Option α} {a : α} (h : x = some a) (f : α → Option β) : x.bind f = f a := by rw [h]; rfl
theorem cond_t {α : Type} {b : Bool} (h : b = true) (x y : α) : (bif b then x else y) = x := by rw [h]; rfl
theorem cond_f {α : Type} {b : Bool} (h : b = false) (x y : α) : (bif b then x else y) = y := by rw [h]; rfl
def Okay (lo hi : Int) (s : MSpan) : Prop := lo ≤ s.lo ∧ s.lo ≤ s.hi ∧ s.hi ≤ hi
instance (lo hi : Int) (s : MSpan) : Decidable (Okay lo hi s) := inferInstanceAs (Decidable (lo ≤ s.lo ∧ s.lo ≤ s.hi ∧ s.hi ≤ hi))
theorem okay_bool (lo hi : Int) (s : MSpan) : ((decide (lo ≤ s.lo) && decide (s.lo ≤ s.hi)) && decide (s.hi ≤ hi)) = decide (Okay lo hi s) := by
  show _ = decide (lo ≤ s.lo ∧ s.lo ≤ s.hi ∧ s.hi ≤ hi)
  simp [Bool.and_assoc]
theorem tdiv_eq {a b : Int} (ha : 0 ≤ a) : a.tdiv b = a / b := Int.tdiv_eq_ediv_of_nonneg ha
theorem tmod_eq {a b : Int} (ha : 0 ≤ a) : a.tmod b = a % b := Int.tmod_eq_emod_of_nonneg ha
theorem div_in {a b : Int} (ha : 0 ≤ a) (hb : 0 < b) : 0 ≤ a / b ∧ a / b ≤ a := ⟨Int.ediv_nonneg ha (by omega), Int.ediv_le_self b ha⟩
theorem div_mul {a b : Int} (hb : 0 < b) : a / b * b ≤ a ∧ a < (a / b + 1) * b := ⟨Int.ediv_mul_le a (by omega), Int.lt_ediv_add_one_mul_self a hb⟩
/-- a quotient, rounded up -/
def cl (N D : Int) : Int := (N + D - 1) / D
theorem floor_le {N1 D1 N2 D2 : Int} (h1 : 0 < D1) (h2 : 0 < D2) (h : N1 * D2 ≤ N2 * D1) : N1 / D1 ≤ N2 / D2 := by
  refine Int.le_ediv_of_mul_le h2 (Int.le_of_mul_le_mul_right ?_ h1)
  have b := Int.mul_le_mul_of_nonneg_right (div_mul (a := N1) h1).1 (show 0 ≤ D2 by omega)
  rw [Int.mul_right_comm]
  exact Int.le_trans b h
theorem cl_mul {N D : Int} (h : 0 < D) : N ≤ cl N D * D := by
  have := (div_mul (a := N + D - 1) h).2
  rw [Int.add_mul, Int.one_mul] at this
  unfold cl
  omega
theorem cl_of {N D k : Int} (h : 0 < D) (hk : N ≤ k * D) : cl N D ≤ k := by
  refine Int.lt_add_one_iff.1 (Int.ediv_lt_of_lt_mul h ?_)
  rw [Int.add_mul, Int.one_mul]
  omega
theorem ceil_le {N1 D1 N2 D2 : Int} (h1 : 0 < D1) (h2 : 0 < D2) (h : N1 * D2 ≤ N2 * D1) : cl N1 D1 ≤ cl N2 D2 := by
  refine cl_of h1 (Int.le_of_mul_le_mul_right ?_ h2)
  have b := Int.mul_le_mul_of_nonneg_right (cl_mul (N := N2) h2) (show 0 ≤ D1 by omega)
  rw [Int.mul_right_comm]
  exact Int.le_trans h b
theorem floor_ceil {N D : Int} (h : 0 < D) : N / D ≤ cl N D := Int.ediv_le_ediv h (by omega)
theorem mean_le {t u F1 G1 F2 G2 : Int} (h : (t - u) * (F1 * G2) ≤ (t - u) * (F2 * G1)) : (t * F1 + u * G1) * (F2 + G2) ≤ (t * F2 + u * G2) * (F1 + G1) := by grind
/-- the lowest and the highest that two warmths come to, each in a share -/
def mixLo (t a b u c d : Int) : Int := if u < t then (t * a + u * d) / (a + d) else (t * b + u * c) / (b + c)
def mixHi (t a b u c d : Int) : Int := if u < t then cl (t * b + u * c) (b + c) else cl (t * a + u * d) (a + d)
structure Wts (a b c d : Int) : Prop where
  a0 : 0 ≤ a
  ab : a ≤ b
  b1 : b ≤ 1073741824
  c0 : 0 ≤ c
  cd : c ≤ d
  d1 : d ≤ 1073741824
  ad : 0 < a + d
  bc : 0 < b + c
theorem Wts.cross {a b c d : Int} (h : Wts a b c d) : a * c ≤ b * d := Int.mul_le_mul h.ab h.cd h.c0 (Int.le_trans h.a0 h.ab)
theorem Wts.less {a b c d t u : Int} (h : Wts a b c d) (hu : u < t) : (t * a + u * d) * (b + c) ≤ (t * b + u * c) * (a + d) :=
  mean_le (Int.mul_le_mul_of_nonneg_left h.cross (by omega))
theorem Wts.more {a b c d t u : Int} (h : Wts a b c d) (hu : ¬ u < t) : (t * b + u * c) * (a + d) ≤ (t * a + u * d) * (b + c) :=
  mean_le (Int.mul_le_mul_of_nonpos_left (by omega) h.cross)
theorem min_mix {a b c d t u : Int} (h : Wts a b c d) : min ((t * b + u * c) / (b + c)) ((t * a + u * d) / (a + d)) = mixLo t a b u c d := by
  unfold mixLo
  split <;> rename_i hu
  · exact Int.min_eq_right (floor_le h.ad h.bc (h.less hu))
  · exact Int.min_eq_left (floor_le h.bc h.ad (h.more hu))
theorem max_mix {a b c d t u : Int} (h : Wts a b c d) : max (cl (t * b + u * c) (b + c)) (cl (t * a + u * d) (a + d)) = mixHi t a b u c d := by
  unfold mixHi
  split <;> rename_i hu
  · exact Int.max_eq_left (ceil_le h.ad h.bc (h.less hu))
  · exact Int.max_eq_right (ceil_le h.bc h.ad (h.more hu))
/-- a product of a warmth and a weight -/
theorem prod_in {t a M : Int} (h0 : 0 ≤ t) (h1 : t ≤ M) (ha : 0 ≤ a) : 0 ≤ t * a ∧ t * a ≤ M * a := ⟨Int.mul_nonneg h0 ha, Int.mul_le_mul_of_nonneg_right h1 ha⟩
theorem mean_in {t u a d : Int} (t0 : 0 ≤ t) (t1 : t ≤ 100000) (u0 : 0 ≤ u) (u1 : u ≤ 100000) (a0 : 0 ≤ a) (d0 : 0 ≤ d) (h : 0 < a + d) : 0 ≤ (t * a + u * d) / (a + d) ∧ cl (t * a + u * d) (a + d) ≤ 100000 := by
  have p1 := prod_in t0 t1 a0
  have p2 := prod_in u0 u1 d0
  exact ⟨Int.ediv_nonneg (by omega) (by omega), cl_of h (by omega)⟩
theorem mix_ok {a b c d t u T U : Int} (h : Wts a b c d) (t0 : 0 ≤ t) (tT : t ≤ T) (T1 : T ≤ 100000) (u0 : 0 ≤ u) (uU : u ≤ U) (U1 : U ≤ 100000) : 0 ≤ mixLo t a b u c d ∧ mixLo t a b u c d ≤ mixHi T a b U c d ∧ mixHi T a b U c d ≤ 100000 := by
  obtain ⟨a0, ab, b1, c0, cd, d1, ad, bc⟩ := h
  have H : Wts a b c d := ⟨a0, ab, b1, c0, cd, d1, ad, bc⟩
  have m1 := mean_in t0 (by omega) u0 (by omega) a0 (show 0 ≤ d by omega) ad
  have m2 := mean_in t0 (by omega) u0 (by omega) (show 0 ≤ b by omega) c0 bc
  have M1 := mean_in (show 0 ≤ T by omega) T1 (show 0 ≤ U by omega) U1 a0 (show 0 ≤ d by omega) ad
  have M2 := mean_in (show 0 ≤ T by omega) T1 (show 0 ≤ U by omega) U1 (show 0 ≤ b by omega) c0 bc
  have g1 : (t * a + u * d) / (a + d) ≤ (T * a + U * d) / (a + d) := by
    have := Int.mul_le_mul_of_nonneg_right tT a0
    have := Int.mul_le_mul_of_nonneg_right uU (show 0 ≤ d by omega)
    exact Int.ediv_le_ediv ad (by omega)
  have g2 : (t * b + u * c) / (b + c) ≤ (T * b + U * c) / (b + c) := by
    have := Int.mul_le_mul_of_nonneg_right tT (show 0 ≤ b by omega)
    have := Int.mul_le_mul_of_nonneg_right uU c0
    exact Int.ediv_le_ediv bc (by omega)
  have e1 := min_mix (t := t) (u := u) H
  have e2 := max_mix (t := T) (u := U) H
  have f1 := floor_ceil (N := T * a + U * d) ad
  have f2 := floor_ceil (N := T * b + U * c) bc
  rw [← e1, ← e2]
  omega
end Go.Proofs.Ytlcccomdijdkaaa
namespace Go.Proofs.Ytlcccomdijdkaaa
open Go.RowKit Go.Proofs.Try

/-- a burner runs from s on within the room, its due hour and the end -/
def Fit (L : List Int) (b : MBurner) (by' s : Int) : Prop := s + b.hours ≤ min b.due by' ∧ ∀ j : Nat, s ≤ j → (j : Int) < s + b.hours → b.heat ≤ L.getD j 0
theorem startLoop_eq (L : List Int) (b : MBurner) (by' from' : Int) (h0 : 0 ≤ from') (hm : min b.due by' ≤ 168) (hh : 1 ≤ b.hours) (hf : from' ≤ 1000) : ∀ (n : Nat) (f h : Int), from' ≤ f → f ≤ h → h - f < b.hours → h ≤ 1000 → min b.due by' - h < n → 0 < n →
    (∀ j : Nat, f ≤ j → (j : Int) < h → b.heat ≤ L.getD j 0) → (∀ s, from' ≤ s → s < f → ¬ Fit L b by' s) →
    (∃ s, stream_hours_start_l1 L b by' n (f, h) = some (Lp.ret (s, true)) ∧ from' ≤ s ∧ Fit L b by' s ∧ ∀ s', from' ≤ s' → s' < s → ¬ Fit L b by' s') ∨ (stream_hours_start_l1 L b by' n (f, h) = some (Lp.done ()) ∧ ∀ s, from' ≤ s → ¬ Fit L b by' s)
  | 0, f, h, _, _, _, _, _, hz, _, _ => by omega
  | n + 1, f, h, a1, a2, a3, a4, a5, _, g1, g2 => by
    rw [stream_hours_start_l1]
    simp only
    by_cases hlt : h < min b.due by'
    · rw [cond_t (by simpa using hlt), grd_pos ⟨by omega, by omega⟩]
      by_cases hc : L.getD h.toNat 0 < b.heat
      · rw [cond_t (by simpa using hc), grd_pos (by omega), grd_pos (by omega)]
        refine startLoop_eq L b by' from' h0 hm hh hf n (h + 1) (h + 1) (by omega) (by omega) (by omega) (by omega) (by omega) (by omega) (fun j j1 j2 => by omega) (fun s s1 s2 hfit => ?_)
        by_cases hs : s < f
        · exact g2 s s1 hs hfit
        · have := hfit.2 h.toNat (by omega) (by omega)
          omega
      · rw [cond_f (by simpa using hc), grd_pos ⟨by omega, by omega⟩]
        by_cases he : h - f + 1 = b.hours
        · rw [cond_t (by simpa using he)]
          refine .inl ⟨f, rfl, a1, ⟨by omega, fun j j1 j2 => ?_⟩, g2⟩
          by_cases hj : (j : Int) < h
          · exact g1 j j1 hj
          · have : j = h.toNat := by omega
            subst this
            omega
        · rw [cond_f (by simpa using he), grd_pos (by omega)]
          refine startLoop_eq L b by' from' h0 hm hh hf n f (h + 1) a1 (by omega) (by omega) (by omega) (by omega) (by omega) (fun j j1 j2 => ?_) g2
          by_cases hj : (j : Int) < h
          · exact g1 j j1 hj
          · have : j = h.toNat := by omega
            subst this
            omega
    · rw [cond_f (by simpa using hlt)]
      refine .inr ⟨rfl, fun s s1 hfit => ?_⟩
      by_cases hs : s < f
      · exact g2 s s1 hs hfit
      · have := hfit.1
        omega
/-- the first hour where it fits, or that there is none -/
theorem start_eq {fuel : Nat} (hfu : 1500 < fuel) (L : List Int) (b : MBurner) (from' by' : Int) (h0 : 0 ≤ from') (hm : min b.due by' ≤ 168) (hh : 1 ≤ b.hours) (hf : from' ≤ 1000) :
    (∃ s, stream_hours_start fuel L b from' by' = some (s, true) ∧ from' ≤ s ∧ Fit L b by' s ∧ ∀ s', from' ≤ s' → s' < s → ¬ Fit L b by' s') ∨ (stream_hours_start fuel L b from' by' = some (0, false) ∧ ∀ s, from' ≤ s → ¬ Fit L b by' s) := by
  unfold stream_hours_start
  rcases startLoop_eq L b by' from' h0 hm hh hf fuel from' from' (Int.le_refl _) (Int.le_refl _) (by omega) hf (by omega) (by omega) (fun j j1 j2 => by omega) (fun s s1 s2 => by omega) with ⟨s, e, r⟩ | ⟨e, r⟩
  · exact .inl ⟨s, by rw [bind_ok e]; rfl, r⟩
  · exact .inr ⟨by rw [bind_ok e]; rfl, r⟩
theorem arrUp_get {L : List Int} {i : Nat} {x : Int} {j : Nat} (hj : j < 168) : (arrUp L i x).getD j 0 = if j = i then x else L.getD j 0 := by
  unfold arrUp
  simp [List.getD, hj]
theorem arrUp_len (L : List Int) (i : Nat) (x : Int) : (arrUp L i x).length = 168 := by simp [arrUp]
theorem withoutLoop_eq (b : MBurner) (start : Int) (h0 : 0 ≤ start) (h1 : start + b.hours ≤ 168) (hq : 0 ≤ b.heat ∧ b.heat ≤ 4611686018427387903) : ∀ (n : Nat) (i : Nat) (L : List Int), (i : Int) ≤ b.hours → b.hours < i + n → L.length = 168 → (∀ j : Nat, start + i ≤ j → (j : Int) < start + b.hours → b.heat ≤ L.getD j 0 ∧ L.getD j 0 ≤ 4611686018427387903) →
    ∃ L', stream_hours_without_l1 b start n ((i : Int), L) = some (Lp.done L') ∧ L'.length = 168 ∧ ∀ j, j < 168 → L'.getD j 0 = L.getD j 0 - if start + i ≤ j ∧ (j : Int) < start + b.hours then b.heat else 0
  | 0, i, L, a1, a2, _, _ => by omega
  | n + 1, i, L, a1, a2, a3, g => by
    rw [stream_hours_without_l1]
    simp only
    by_cases hlt : (i : Int) < b.hours
    · have hk := g (start + i).toNat (by omega) (by omega)
      rw [cond_t (by simpa using hlt), grd_pos ⟨by omega, ⟨by omega, by omega⟩, by omega, ⟨by omega, by omega⟩⟩, grd_pos (by omega)]
      obtain ⟨L', e, e1, e2⟩ := withoutLoop_eq b start h0 h1 hq n (i + 1) (arrUp L (Int.toNat (start + i)) (L.getD (Int.toNat (start + i)) 0 - b.heat)) (by omega) (by omega) (arrUp_len _ _ _) (fun j j1 j2 => by
        rw [arrUp_get (by omega), if_neg (by omega)]
        exact g j (by omega) j2)
      refine ⟨L', by rw [show (i : Int) + 1 = ((i + 1 : Nat) : Int) by omega]; exact e, e1, fun j hj => ?_⟩
      rw [e2 j hj, arrUp_get hj]
      by_cases hji : j = (start + i).toNat
      · subst hji
        rw [if_pos rfl, if_neg (by omega), if_pos (by omega)]
        omega
      · rw [if_neg hji]
        by_cases hc : start + ((i + 1 : Nat) : Int) ≤ j ∧ (j : Int) < start + b.hours
        · rw [if_pos hc, if_pos (by omega)]
        · rw [if_neg hc, if_neg (by omega)]
    · rw [cond_f (by simpa using hlt)]
      refine ⟨L, rfl, a3, fun j hj => ?_⟩
      rw [if_neg (by omega)]
      omega
/-- the room that a burner leaves -/
theorem without_eq {fuel : Nat} (hfu : 1500 < fuel) {L : List Int} {b : MBurner} {start : Int} (hl : L.length = 168) (h0 : 0 ≤ start) (h1 : start + b.hours ≤ 168) (hh : 1 ≤ b.hours) (hq : 0 ≤ b.heat ∧ b.heat ≤ 4611686018427387903) (g : ∀ j : Nat, start ≤ j → (j : Int) < start + b.hours → b.heat ≤ L.getD j 0 ∧ L.getD j 0 ≤ 4611686018427387903) :
    ∃ L', stream_hours_without fuel L b start = some L' ∧ L'.length = 168 ∧ ∀ j, j < 168 → L'.getD j 0 = L.getD j 0 - if start ≤ j ∧ (j : Int) < start + b.hours then b.heat else 0 := by
  obtain ⟨L', e, e1, e2⟩ := withoutLoop_eq b start h0 h1 hq fuel 0 L (by omega) (by omega) hl (fun j j1 j2 => g j (by omega) j2)
  have e' : stream_hours_without_l1 b start fuel (0, L) = some (Lp.done L') := e
  refine ⟨L', by unfold stream_hours_without; rw [bind_ok e']; rfl, e1, fun j hj => ?_⟩
  rw [e2 j hj]
  simp
end Go.Proofs.Ytlcccomdijdkaaa
namespace Go.Proofs.Ytlcccomdijdkaaa
open Go.RowKit Go.Proofs.Try

def term (b : MBurner) (s : Int) (j : Nat) : Int := if s ≤ j ∧ (j : Int) < s + b.hours then b.heat else 0
def usage : List MBurner → List Int → Nat → Int
  | b :: l, s :: S, j => term b s j + usage l S j
  | _, _, _ => 0
def Cond (by' : Int) : List MBurner → List Int → Prop
  | [], [] => True
  | b :: l, s :: S => (b.ready ≤ s ∧ s + b.hours ≤ min b.due by') ∧ Cond by' l S
  | _, _ => False
def Okp (f : Nat → Int) (by' : Int) (l : List MBurner) (S : List Int) : Prop := Cond by' l S ∧ ∀ j, j < 168 → usage l S j ≤ f j
def Fea (f : Nat → Int) (by' : Int) (l : List MBurner) : Prop := ∃ S, Okp f by' l S
structure OkB (b : MBurner) : Prop where
  ready : 0 ≤ b.ready
  due : b.due ≤ 168
  late : b.ready ≤ 168
  hours : 1 ≤ b.hours
  heat : 0 ≤ b.heat ∧ b.heat ≤ 1099511627776
theorem Cond.len {by' : Int} : ∀ {l : List MBurner} {S : List Int}, Cond by' l S → S.length = l.length
  | [], [], _ => rfl
  | b :: l, s :: S, h => by simp only [List.length_cons]; rw [h.2.len]
  | [], _ :: _, h => h.elim
  | _ :: _, [], h => h.elim
theorem term_nonneg {b : MBurner} (hb : OkB b) (s : Int) (j : Nat) : 0 ≤ term b s j := by
  have := hb.heat
  unfold term
  split <;> omega
theorem usage_nonneg : ∀ (l : List MBurner) (S : List Int) (j : Nat), (∀ b ∈ l, OkB b) → 0 ≤ usage l S j
  | [], _, _, _ => by unfold usage; exact Int.le_refl _
  | b :: l, [], _, _ => by unfold usage; exact Int.le_refl _
  | b :: l, s :: S, j, h => by
    rw [usage]
    have h1 := term_nonneg (h b (by simp)) s j
    have h2 := usage_nonneg l S j (fun x hx => h x (by simp [hx]))
    omega
theorem usage_split : ∀ (l1 : List MBurner) (S1 : List Int) (b : MBurner) (l2 : List MBurner) (s : Int) (S2 : List Int) (j : Nat), S1.length = l1.length → usage (l1 ++ b :: l2) (S1 ++ s :: S2) j = term b s j + usage (l1 ++ l2) (S1 ++ S2) j
  | [], [], b, l2, s, S2, j, _ => rfl
  | a :: l1, t :: S1, b, l2, s, S2, j, h => by
    simp only [List.cons_append, usage]
    rw [usage_split l1 S1 b l2 s S2 j (by simpa using h)]
    omega
  | [], _ :: _, _, _, _, _, _, h => by simp at h
  | _ :: _, [], _, _, _, _, _, h => by simp at h
theorem cond_split {by' : Int} : ∀ (l1 : List MBurner) (S1 : List Int) (b : MBurner) (l2 : List MBurner) (s : Int) (S2 : List Int), S1.length = l1.length → (Cond by' (l1 ++ b :: l2) (S1 ++ s :: S2) ↔ (b.ready ≤ s ∧ s + b.hours ≤ min b.due by') ∧ Cond by' (l1 ++ l2) (S1 ++ S2))
  | [], [], b, l2, s, S2, _ => Iff.rfl
  | a :: l1, t :: S1, b, l2, s, S2, h => by
    simp only [List.cons_append, Cond]
    rw [cond_split l1 S1 b l2 s S2 (by simpa using h)]
    exact and_left_comm
  | [], _ :: _, _, _, _, _, h => by simp at h
  | _ :: _, [], _, _, _, _, h => by simp at h
theorem usage_zero : ∀ (l : List MBurner) (S : List Int) (j : Nat), (∀ x ∈ S, (j : Int) < x) → usage l S j = 0
  | [], _, _, _ => by unfold usage; rfl
  | b :: l, [], _, _ => by unfold usage; rfl
  | b :: l, s :: S, j, h => by
    rw [usage, usage_zero l S j (fun x hx => h x (by simp [hx]))]
    have := h s (by simp)
    unfold term
    rw [if_neg (by omega)]
    rfl
/-- who starts first -/
theorem least {by' : Int} : ∀ (l : List MBurner) (S : List Int), Cond by' l S → l ≠ [] → ∃ l1 b l2 S1 s S2, l = l1 ++ b :: l2 ∧ S = S1 ++ s :: S2 ∧ S1.length = l1.length ∧ ∀ x ∈ S1 ++ S2, s ≤ x
  | [], _, _, h => absurd rfl h
  | _ :: _, [], h, _ => h.elim
  | b :: l, s :: S, h, _ => by
    by_cases hl : l = []
    · subst hl
      match S, h.2 with
      | [], _ => exact ⟨[], b, [], [], s, [], rfl, rfl, rfl, fun x hx => by simp at hx⟩
    · obtain ⟨l1, b', l2, S1, s', S2, e1, e2, e3, e4⟩ := least l S h.2 hl
      by_cases hs : s ≤ s'
      · refine ⟨[], b, l, [], s, S, rfl, rfl, rfl, fun x hx => ?_⟩
        rw [e2] at hx
        simp only [List.nil_append, List.mem_append, List.mem_cons] at hx
        rcases hx with hx | rfl | hx
        · have := e4 x (by simp [hx]); omega
        · exact hs
        · have := e4 x (by simp [hx]); omega
      · refine ⟨b :: l1, b', l2, s :: S1, s', S2, by rw [e1]; rfl, by rw [e2]; rfl, by simp [e3], fun x hx => ?_⟩
        simp only [List.cons_append, List.mem_cons] at hx
        rcases hx with rfl | hx
        · omega
        · exact e4 x hx
/-- with one burner set, the room that it leaves -/
theorem set_one {f : Nat → Int} {by' : Int} {l1 l2 : List MBurner} {b : MBurner} {e : Int} (hc : b.ready ≤ e ∧ e + b.hours ≤ min b.due by') (h : Fea (fun j => f j - term b e j) by' (l1 ++ l2)) : Fea f by' (l1 ++ b :: l2) := by
  obtain ⟨S, h1, h2⟩ := h
  have hl := h1.len
  have e1 : S = S.take l1.length ++ S.drop l1.length := (List.take_append_drop _ _).symm
  have e2 : (S.take l1.length).length = l1.length := by simp [hl]
  refine ⟨S.take l1.length ++ e :: S.drop l1.length, (cond_split _ _ _ _ _ _ e2).2 ⟨hc, by rw [← e1]; exact h1⟩, fun j hj => ?_⟩
  rw [usage_split _ _ _ _ _ _ _ e2, ← e1]
  have := h2 j hj
  simp only at this
  omega
/-- of a plan: each burner fits by itself -/
theorem fit_of {L : List Int} {by' : Int} {l1 l2 : List MBurner} {b : MBurner} (hok : ∀ x ∈ l1 ++ b :: l2, OkB x) (h : Fea (fun j => L.getD j 0) by' (l1 ++ b :: l2)) : ∃ s, b.ready ≤ s ∧ Fit L b by' s := by
  obtain ⟨S, h1, h2⟩ := h
  have hl := h1.len
  simp only [List.length_append, List.length_cons] at hl
  have hd : S.drop l1.length = S.getD l1.length default :: S.drop (l1.length + 1) := by
    rw [List.drop_eq_getElem_cons (by omega)]
    simp [List.getD, show l1.length < S.length by omega]
  have e1 : S = S.take l1.length ++ S.getD l1.length default :: S.drop (l1.length + 1) := by rw [← hd, List.take_append_drop]
  have e2 : (S.take l1.length).length = l1.length := by simp; omega
  rw [e1] at h1 h2
  have hc := (cond_split _ _ _ _ _ _ e2).1 h1
  refine ⟨_, hc.1.1, hc.1.2, fun j j1 j2 => ?_⟩
  have hb := hok b (by simp)
  have hj : j < 168 := by have := hc.1.2; have := hb.due; omega
  have := h2 j hj
  rw [usage_split _ _ _ _ _ _ _ e2] at this
  have hn := usage_nonneg (l1 ++ l2) (S.take l1.length ++ S.drop (l1.length + 1)) j (fun x hx => hok x (by simp at hx ⊢; rcases hx with h | h <;> simp [h]))
  unfold term at this
  rw [if_pos ⟨j1, j2⟩] at this
  simp only at this
  omega
/-- of a plan: whoever starts first may start as early as the room lets it, by itself -/
theorem first_of {L : List Int} {by' : Int} {l : List MBurner} (hok : ∀ x ∈ l, OkB x) (hne : l ≠ []) (h : Fea (fun j => L.getD j 0) by' l) : ∃ l1 b l2, l = l1 ++ b :: l2 ∧ ∀ e, b.ready ≤ e → Fit L b by' e → (∀ s', b.ready ≤ s' → s' < e → ¬ Fit L b by' s') → Fea (fun j => L.getD j 0 - term b e j) by' (l1 ++ l2) := by
  obtain ⟨S, h1, h2⟩ := h
  obtain ⟨l1, b, l2, S1, s, S2, rfl, rfl, e3, e4⟩ := least l S h1 hne
  refine ⟨l1, b, l2, rfl, fun e r1 hfit hmin => ?_⟩
  have hc := (cond_split _ _ _ _ _ _ e3).1 h1
  have hb := hok b (by simp)
  have hoth : ∀ x ∈ l1 ++ l2, OkB x := fun x hx => hok x (by simp at hx ⊢; rcases hx with h | h <;> simp [h])
  have hes : e ≤ s := by
    refine Int.le_of_not_gt fun hgt => ?_
    refine hmin s hc.1.1 hgt ⟨hc.1.2, fun j j1 j2 => ?_⟩
    have hj : j < 168 := by have := hc.1.2; have := hb.due; omega
    have := h2 j hj
    rw [usage_split _ _ _ _ _ _ _ e3] at this
    have hn := usage_nonneg (l1 ++ l2) (S1 ++ S2) j hoth
    unfold term at this
    rw [if_pos ⟨j1, j2⟩] at this
    simp only at this
    omega
  refine ⟨S1 ++ S2, hc.2, fun j hj => ?_⟩
  have hu := h2 j hj
  rw [usage_split _ _ _ _ _ _ _ e3] at hu
  simp only at hu ⊢
  have hq := hb.heat
  unfold term at hu ⊢
  by_cases hw : e ≤ j ∧ (j : Int) < e + b.hours
  · rw [if_pos hw]
    by_cases hj2 : (j : Int) < s
    · rw [usage_zero _ _ _ (fun x hx => by have := e4 x hx; omega)]
      have := hfit.2 j hw.1 hw.2
      omega
    · rw [if_pos ⟨by omega, by omega⟩] at hu
      omega
  · rw [if_neg hw]
    split at hu <;> omega
theorem Fea.congr {f g : Nat → Int} {by' : Int} {l : List MBurner} (h : ∀ j, j < 168 → f j = g j) : Fea f by' l ↔ Fea g by' l :=
  ⟨fun ⟨S, a, b⟩ => ⟨S, a, fun j hj => by rw [← h j hj]; exact b j hj⟩, fun ⟨S, a, b⟩ => ⟨S, a, fun j hj => by rw [h j hj]; exact b j hj⟩⟩
end Go.Proofs.Ytlcccomdijdkaaa
namespace Go.Proofs.Ytlcccomdijdkaaa
open Go.RowKit Go.Proofs.Try

theorem grow_eq (n : Int) (h0 : 0 ≤ n) (h1 : n ≤ 1000000) : growM n = some () := by
  unfold growM
  rw [cond_f (decide_eq_false (by omega)), grd_pos ⟨by omega, by omega⟩]
  by_cases h : 0 < n - (0 - 0)
  · rw [cond_t (decide_eq_true h), grd_pos ⟨h, by omega⟩]
  · rw [cond_f (decide_eq_false h)]
theorem concat_eq {l1 l2 : List MBurner} (h : l1.length + l2.length ≤ 1000) : concatM l1 l2 = some (l1 ++ l2) := by
  unfold concatM
  rw [grd_pos (by omega), cond_f (decide_eq_false (by omega)), grd_pos (by omega), cond_f (decide_eq_false (by omega)), bind_ok (grow_eq _ (by omega) (by omega))]
  simp only [List.nil_append, List.length_nil]
  rw [grd_pos (by omega), grd_pos (by omega)]
def Good (L : List Int) : Prop := L.length = 168 ∧ ∀ j, j < 168 → 0 ≤ L.getD j 0 ∧ L.getD j 0 ≤ 8796093022208
/-- one burner set where it fits first: the room left -/
theorem left_ok {fuel : Nat} (hfu : 1500 < fuel) {L : List Int} {b : MBurner} {by' e : Int} (hL : Good L) (hb : OkB b) (h1 : b.ready ≤ e) (hfit : Fit L b by' e) : ∃ L', stream_hours_without fuel L b e = some L' ∧ Good L' ∧ ∀ j, j < 168 → L'.getD j 0 = L.getD j 0 - term b e j := by
  have hd := hb.due
  have hr := hb.ready
  have hq := hb.heat
  have hf1 := hfit.1
  obtain ⟨L', e1, e2, e3⟩ := without_eq hfu (b := b) (start := e) hL.1 (by omega) (by omega) hb.hours (by omega) (fun j j1 j2 => ⟨hfit.2 j j1 j2, by have := (hL.2 j (by omega)).2; omega⟩)
  refine ⟨L', e1, ⟨e2, fun j hj => ?_⟩, e3⟩
  rw [e3 j hj]
  have := hL.2 j hj
  by_cases hc : e ≤ j ∧ (j : Int) < e + b.hours
  · rw [if_pos hc]
    have := hfit.2 j hc.1 hc.2
    omega
  · rw [if_neg hc]
    omega
theorem tryLoop_eq {fuel : Nat} (hfu : 1500 < fuel) (by' : Int) (n : Nat) (ih : ∀ (L : List Int) (rest : List MBurner), rest.length < n → rest.length ≤ 1000 → Good L → (∀ b ∈ rest, OkB b) → ∃ r, tryM fuel by' n L rest = some r ∧ (r = true ↔ Fea (fun j => L.getD j 0) by' rest))
    (L : List Int) (rest : List MBurner) (hn : rest.length < n + 1) (hlen : rest.length ≤ 1000) (hL : Good L) (hok : ∀ b ∈ rest, OkB b) : ∀ (m i : Nat), i ≤ rest.length → rest.length < i + m →
    (∃ v, tryB_l1 fuel by' L rest (tryM fuel by' n) m (i : Int) = some (Lp.ret v) ∧ (v = true ↔ Fea (fun j => L.getD j 0) by' rest)) ∨
    (tryB_l1 fuel by' L rest (tryM fuel by' n) m (i : Int) = some (Lp.done ()) ∧ ∀ l1 b l2, rest = l1 ++ b :: l2 → i ≤ l1.length → ∃ e, b.ready ≤ e ∧ Fit L b by' e ∧ (∀ s', b.ready ≤ s' → s' < e → ¬ Fit L b by' s') ∧ ¬ Fea (fun j => L.getD j 0 - term b e j) by' (l1 ++ l2))
  | 0, i, h1, h2 => by omega
  | m + 1, i, h1, h2 => by
    rw [tryB_l1]
    by_cases hlt : i < rest.length
    · have hd : rest = rest.take i ++ rest.getD i default :: rest.drop (i + 1) := by
        have : rest.drop i = rest.getD i default :: rest.drop (i + 1) := by
          rw [List.drop_eq_getElem_cons hlt]
          simp [List.getD, hlt]
        rw [← this, List.take_append_drop]
      have hli : (rest.take i).length = i := by simp; omega
      obtain ⟨b, hbe⟩ : ∃ b, b = rest.getD i default := ⟨_, rfl⟩
      rw [cond_t (by simpa using hlt), grd_pos ⟨by omega, by omega⟩]
      simp only [Int.toNat_natCast]
      rw [← hbe] at hd ⊢
      have hb : OkB b := hok b (by rw [hd]; simp)
      have hdue := hb.due
      rcases start_eq hfu L b b.ready by' hb.ready (by omega) hb.hours (by have := hb.late; omega) with ⟨e, es, r1, hfit, hmin⟩ | ⟨es, hno⟩
      · rw [bind_ok es]
        obtain ⟨L', ew, hL', hLj⟩ := left_ok hfu hL hb r1 hfit
        simp only [Bool.not_true]
        rw [cond_f rfl, bind_ok ew, grd_pos ⟨⟨by omega, by omega, by omega⟩, by omega, by omega, by omega, by omega⟩]
        have ec : concatM ((rest.drop 0).take (i - 0)) ((rest.drop (Int.toNat ((i : Int) + 1))).take (rest.length - (Int.toNat ((i : Int) + 1)))) = some (rest.take i ++ rest.drop (i + 1)) := by
          rw [show Int.toNat ((i : Int) + 1) = i + 1 by omega, List.drop_zero, Nat.sub_zero, List.take_of_length_le (l := rest.drop (i + 1)) (by simp)]
          exact concat_eq (by simp; omega)
        rw [bind_ok ec]
        obtain ⟨r, er, hr⟩ := ih L' (rest.take i ++ rest.drop (i + 1)) (by simp; omega) (by simp; omega) hL' (fun x hx => hok x (by rw [hd]; simp at hx ⊢; rcases hx with h | h <;> simp [h]))
        rw [bind_ok er]
        have hr2 : r = true ↔ Fea (fun j => L.getD j 0 - term b e j) by' (rest.take i ++ rest.drop (i + 1)) := hr.trans (Fea.congr hLj)
        cases r with
        | true =>
          rw [cond_t rfl]
          refine .inl ⟨true, rfl, ⟨fun _ => ?_, fun _ => rfl⟩⟩
          rw [hd]
          exact set_one ⟨r1, hfit.1⟩ (hr2.1 rfl)
        | false =>
          rw [cond_f rfl, grd_pos (by omega)]
          have hnf : ¬ Fea (fun j => L.getD j 0 - term b e j) by' (rest.take i ++ rest.drop (i + 1)) := fun h => by cases hr2.2 h
          rcases tryLoop_eq hfu by' n ih L rest hn hlen hL hok m (i + 1) (by omega) (by omega) with hx | ⟨e1, e2⟩
          · exact .inl hx
          · refine .inr ⟨e1, fun l1 b' l2 hsp hle => ?_⟩
            by_cases hli2 : l1.length = i
            · have heq : rest.take i ++ b :: rest.drop (i + 1) = l1 ++ b' :: l2 := hd.symm.trans hsp
              obtain ⟨q1, q2⟩ := List.append_inj heq (by rw [hli, hli2])
              injection q2 with q3 q4
              subst q1 q3 q4
              exact ⟨e, r1, hfit, hmin, hnf⟩
            · exact e2 l1 b' l2 hsp (by omega)
      · rw [bind_ok es]
        simp only [Bool.not_false]
        rw [cond_t rfl]
        refine .inl ⟨false, rfl, ⟨fun h => (by cases h), fun h => ?_⟩⟩
        rw [hd] at h hok
        obtain ⟨s, s1, s2⟩ := fit_of hok h
        exact absurd s2 (hno s s1)
    · rw [cond_f (by simpa using hlt)]
      refine .inr ⟨rfl, fun l1 b l2 hsp hle => ?_⟩
      rw [hsp] at hlt
      simp at hlt
      omega
theorem try_eq {fuel : Nat} (hfu : 1500 < fuel) (by' : Int) : ∀ (n : Nat) (L : List Int) (rest : List MBurner), rest.length < n → rest.length ≤ 1000 → Good L → (∀ b ∈ rest, OkB b) → ∃ r, tryM fuel by' n L rest = some r ∧ (r = true ↔ Fea (fun j => L.getD j 0) by' rest)
  | 0, _, _, h, _, _, _ => by omega
  | n + 1, L, rest, h, h1, hL, hok => by
    rw [tryM, tryB]
    rcases tryLoop_eq hfu by' n (try_eq hfu by' n) L rest h h1 hL hok fuel 0 (by omega) (by omega) with ⟨v, e, hv⟩ | ⟨e, hv⟩
    · have e' : tryB_l1 fuel by' L rest (tryM fuel by' n) fuel 0 = _ := e
      rw [bind_ok e']
      exact ⟨v, rfl, hv⟩
    · have e' : tryB_l1 fuel by' L rest (tryM fuel by' n) fuel 0 = _ := e
      rw [bind_ok e']
      refine ⟨((rest.length : Nat) : Int) == 0, rfl, ?_⟩
      by_cases hr : rest = []
      · subst hr
        refine ⟨fun _ => ⟨[], trivial, fun j hj => ?_⟩, fun _ => rfl⟩
        have := hL.2 j hj
        unfold usage
        exact this.1
      · refine ⟨fun h => ?_, fun h => ?_⟩
        · have : rest.length = 0 := by simpa using h
          exact absurd (List.length_eq_zero_iff.1 this) hr
        · obtain ⟨l1, b, l2, hsp, hall⟩ := first_of hok hr h
          obtain ⟨e, r1, hfit, hmin, hno⟩ := hv l1 b l2 hsp (by omega)
          exact absurd (hall e r1 hfit hmin) hno
theorem hasPlan_eq {fuel : Nat} (hfu : 1500 < fuel) (by' : Int) {L : List Int} {l : List MBurner} (h1 : l.length ≤ 1000) (hL : Good L) (hok : ∀ b ∈ l, OkB b) : ∃ r, stream_hours_hasPlan fuel L l by' = some r ∧ (r = true ↔ Fea (fun j => L.getD j 0) by' l) := by
  obtain ⟨r, e, h⟩ := try_eq hfu by' (l.length + 1) L l (by omega) h1 hL hok
  refine ⟨r, ?_, h⟩
  unfold stream_hours_hasPlan
  rw [bind_ok e]
end Go.Proofs.Ytlcccomdijdkaaa
namespace Go.Proofs.Ytlcccomdijdkaaa
open Go.RowKit Go.Proofs.Try

theorem Cond.mono {x y : Int} (h : x ≤ y) : ∀ {l : List MBurner} {S : List Int}, Cond x l S → Cond y l S
  | [], [], _ => trivial
  | b :: l, s :: S, hc => ⟨⟨hc.1.1, by have := hc.1.2; omega⟩, hc.2.mono h⟩
  | [], _ :: _, hc => hc.elim
  | _ :: _, [], hc => hc.elim
theorem Fea.mono {f : Nat → Int} {x y : Int} {l : List MBurner} (h : x ≤ y) (hf : Fea f x l) : Fea f y l := by
  obtain ⟨S, a, b⟩ := hf
  exact ⟨S, a.mono h, b⟩
theorem okp_cons {f : Nat → Int} {by' : Int} {b : MBurner} {l : List MBurner} {s : Int} {S : List Int} : Okp f by' (b :: l) (s :: S) ↔ (b.ready ≤ s ∧ s + b.hours ≤ min b.due by') ∧ Okp (fun j => f j - term b s j) by' l S := by
  constructor
  · rintro ⟨h1, h2⟩
    refine ⟨h1.1, h1.2, fun j hj => ?_⟩
    have := h2 j hj
    rw [usage] at this
    simp only
    omega
  · rintro ⟨h1, h2, h3⟩
    refine ⟨⟨h1, h2⟩, fun j hj => ?_⟩
    have := h3 j hj
    simp only at this
    rw [usage]
    omega
theorem fit_head {L : List Int} {by' : Int} {b : MBurner} {l : List MBurner} {s : Int} {S : List Int} (hok : ∀ x ∈ b :: l, OkB x) (h : Okp (fun j => L.getD j 0) by' (b :: l) (s :: S)) : Fit L b by' s := by
  have h' := h
  obtain ⟨⟨h1, _⟩, h2⟩ := h
  refine ⟨h1.2, fun j j1 j2 => ?_⟩
  have hb := hok b (by simp)
  have hj : j < 168 := by have := hb.due; omega
  have := h2 j hj
  rw [usage] at this
  have hn := usage_nonneg l S j (fun x hx => hok x (by simp [hx]))
  unfold term at this
  rw [if_pos ⟨j1, j2⟩] at this
  simp only at this
  omega
/-- the first that is done, found by halves -/
theorem runsLoop_eq {fuel : Nat} (hfu : 1500 < fuel) {L : List Int} {l : List MBurner} (h1 : l.length ≤ 1000) (hL : Good L) (hok : ∀ b ∈ l, OkB b) (n0 : Int) (hn0 : n0 ≤ 1000) : ∀ (n m : Nat) (lo hi : Int), n ≤ m → 0 ≤ lo → lo ≤ hi → hi ≤ n0 → hi - lo < 2 ^ n → (∀ x, 0 ≤ x → x < lo → ¬ Fea (fun j => L.getD j 0) x l) → (∀ x, hi ≤ x → x < n0 → Fea (fun j => L.getD j 0) x l) →
    ∃ r : Int, searchRuns_l1 fuel L l (m + 1) (lo, hi) = some (Lp.done r) ∧ 0 ≤ r ∧ r ≤ n0 ∧ (∀ x, 0 ≤ x → x < r → ¬ Fea (fun j => L.getD j 0) x l) ∧ (∀ x, r ≤ x → x < n0 → Fea (fun j => L.getD j 0) x l) := by
  intro n
  induction n with
  | zero =>
    intro m lo hi _ a0 a1 a2 a3 g1 g2
    have : hi = lo := by simp at a3; omega
    subst this
    refine ⟨hi, ?_, a0, a2, g1, g2⟩
    rw [searchRuns_l1, cond_f (by simp)]
  | succ n ih =>
    intro m lo hi hm a0 a1 a2 a3 g1 g2
    obtain ⟨m, rfl⟩ : ∃ k, m = k + 1 := ⟨m - 1, by omega⟩
    by_cases hlt : lo < hi
    · rw [searchRuns_l1]
      simp only
      have hp : (2 : Int) ^ (n + 1) = 2 * 2 ^ n := by rw [Int.pow_succ, Int.mul_comm]
      rw [hp] at a3
      obtain ⟨r, e, hr⟩ := hasPlan_eq hfu ((lo + hi) / 2) h1 hL hok
      have e' : runsOff fuel L l ((lo + hi) / 2) = some r := by unfold runsOff; rw [bind_ok e]
      rw [cond_t (by simpa using hlt), grd_pos ⟨by omega, by unfold InU64; omega, by omega, by omega⟩, bind_ok e']
      cases r with
      | false =>
        have hno : ¬ Fea (fun j => L.getD j 0) ((lo + hi) / 2) l := fun h => by cases hr.2 h
        simp only [Bool.not_false]
        rw [cond_t rfl, grd_pos (by omega)]
        exact ih m _ _ (by omega) (by omega) (by omega) a2 (by omega) (fun x x0 x1 hx => hno (hx.mono (by omega))) g2
      | true =>
        simp only [Bool.not_true]
        rw [cond_f rfl]
        exact ih m _ _ (by omega) a0 (by omega) (by omega) (by omega) g1 (fun x x0 x1 => (hr.1 rfl).mono x0)
    · have : hi = lo := by omega
      subst this
      refine ⟨hi, ?_, a0, a2, g1, g2⟩
      rw [searchRuns_l1, cond_f (by simp)]
theorem getD_mem {l : List MBurner} {i : Nat} (h : i < l.length) : l.getD i default ∈ l := by
  have e : l.getD i default = l[i] := by simp [List.getD, h]
  rw [e]
  exact List.getElem_mem h
theorem go_done {α β : Type} (x : α) (f : α → Option β) : (Lp.done x : Lp α β).go f = f x := rfl
/-- the order of plans -/
def LexLe : List Int → List Int → Prop
  | s :: S, t :: T => s < t ∨ (s = t ∧ LexLe S T)
  | _, _ => True
theorem planIn_eq {fuel : Nat} (hfu : 1500 < fuel) (l : List MBurner) (by' : Int) (i : Nat) (L acc : List Int) (hi : i < l.length) (hlen : l.length ≤ 1000) (hL : Good L) (hok : ∀ b ∈ l, OkB b) (ha : acc.length ≤ 1000) (hf : Fea (fun j => L.getD j 0) by' (l.getD i default :: l.drop (i + 1))) :
    ∀ (m : Nat) (s : Int), 168 < s + m → (l.getD i default).ready ≤ s → Fit L (l.getD i default) by' s → (∀ s', (l.getD i default).ready ≤ s' → s' < s → Fit L (l.getD i default) by' s' → ¬ Fea (fun j => L.getD j 0 - term (l.getD i default) s' j) by' (l.drop (i + 1))) →
    ∃ t L', stream_hours_plan_l2 fuel l by' ((i : Int), L, acc) m (s, true) = some (Lp.done (L', acc ++ [t])) ∧ (l.getD i default).ready ≤ t ∧ Fit L (l.getD i default) by' t ∧ Good L' ∧ (∀ j, j < 168 → L'.getD j 0 = L.getD j 0 - term (l.getD i default) t j) ∧ Fea (fun j => L'.getD j 0) by' (l.drop (i + 1)) ∧
      ∀ s', (l.getD i default).ready ≤ s' → s' < t → Fit L (l.getD i default) by' s' → ¬ Fea (fun j => L.getD j 0 - term (l.getD i default) s' j) by' (l.drop (i + 1))
  | 0, s, h, h1, h2, h3 => by
    have := h2.1
    have hb : OkB (l.getD i default) := hok _ (getD_mem hi)
    have := hb.due
    have := hb.hours
    omega
  | m + 1, s, h, h1, h2, h3 => by
    have hb : OkB (l.getD i default) := hok _ (getD_mem hi)
    rw [stream_hours_plan_l2]
    simp only [Int.toNat_natCast]
    rw [cond_t rfl]
    obtain ⟨L', ew, hL', hLj⟩ := left_ok hfu hL hb h1 h2
    have hd : (l.drop (Int.toNat ((i : Int) + 1))).take (l.length - (Int.toNat ((i : Int) + 1))) = l.drop (i + 1) := by
      rw [show Int.toNat ((i : Int) + 1) = i + 1 by omega, List.take_of_length_le (by simp)]
    rw [bind_ok ew, grd_pos ⟨by omega, by omega, by omega, by omega⟩, hd]
    obtain ⟨r, er, hr⟩ := hasPlan_eq hfu by' (l := l.drop (i + 1)) (by simp; omega) hL' (fun b hb => hok b (List.mem_of_mem_drop hb))
    rw [bind_ok er]
    have hr2 : r = true ↔ Fea (fun j => L.getD j 0 - term (l.getD i default) s j) by' (l.drop (i + 1)) := hr.trans (Fea.congr hLj)
    cases r with
    | true =>
      rw [cond_t rfl, grd_pos (by omega)]
      exact ⟨s, L', rfl, h1, h2, hL', hLj, hr.1 rfl, h3⟩
    | false =>
      have hno : ¬ Fea (fun j => L.getD j 0 - term (l.getD i default) s j) by' (l.drop (i + 1)) := fun h => by cases hr2.2 h
      have hs168 : s ≤ 168 := by have := h2.1; have := hb.due; have := hb.hours; omega
      rw [cond_f rfl, grd_pos (by have := hb.ready; omega)]
      have hr0 := hb.ready
      rcases start_eq hfu L (l.getD i default) (s + 1) by' (by omega) (by have := hb.due; omega) hb.hours (by omega) with ⟨e, es, r1, hfit, hmin⟩ | ⟨es, hnone⟩
      · rw [bind_ok es]
        refine planIn_eq hfu l by' i L acc hi hlen hL hok ha hf m e (by omega) (by omega) hfit (fun s' g1 g2 g3 => ?_)
        by_cases hs' : s' < s
        · exact h3 s' g1 hs' g3
        · by_cases hs2 : s' = s
          · subst hs2
            exact hno
          · exact absurd g3 (hmin s' (by omega) g2)
      · obtain ⟨S, hS⟩ := hf
        cases S with
        | nil => exact hS.1.elim
        | cons t T =>
          have hfit := fit_head (fun x hx => hok x (by
            rcases List.mem_cons.1 hx with rfl | hx
            · exact getD_mem hi
            · exact List.mem_of_mem_drop hx)) hS
          have ho := okp_cons.1 hS
          by_cases ht : s + 1 ≤ t
          · exact absurd hfit (hnone t ht)
          · by_cases ht2 : t = s
            · subst ht2
              exact absurd ⟨T, ho.2⟩ hno
            · exact absurd ⟨T, ho.2⟩ (h3 t ho.1.1 (by omega) hfit)
set_option maxRecDepth 100000 in
theorem planOut_eq {fuel : Nat} (hfu : 1500 < fuel) (l : List MBurner) (by' : Int) (hlen : l.length ≤ 1000) (hok : ∀ b ∈ l, OkB b) : ∀ (m i : Nat) (L acc : List Int), i ≤ l.length → l.length < i + m → acc.length = i → Good L → Fea (fun j => L.getD j 0) by' (l.drop i) →
    ∃ S, stream_hours_plan_l1 fuel l by' m ((i : Int), L, acc) = some (Lp.done (acc ++ S)) ∧ Okp (fun j => L.getD j 0) by' (l.drop i) S ∧ ∀ S', Okp (fun j => L.getD j 0) by' (l.drop i) S' → LexLe S S' := by
  intro m
  induction m with
  | zero => intro i L acc h1 h2 ha hL hf; omega
  | succ m ih =>
    intro i L acc h1 h2 ha hL hf
    by_cases hlt : i < l.length
    · have hd : l.drop i = l.getD i default :: l.drop (i + 1) := by
        rw [List.drop_eq_getElem_cons hlt]
        simp [List.getD, hlt]
      rw [hd] at hf ⊢
      have hb : OkB (l.getD i default) := hok _ (getD_mem hlt)
      have hokd : ∀ x ∈ l.getD i default :: l.drop (i + 1), OkB x := fun x hx => by
        rcases List.mem_cons.1 hx with rfl | hx
        · exact hb
        · exact hok x (List.mem_of_mem_drop hx)
      rcases start_eq hfu L (l.getD i default) (l.getD i default).ready by' hb.ready (by have := hb.due; omega) hb.hours (by have := hb.late; omega) with ⟨e, es, r1, hfit, hmin⟩ | ⟨es, hnone⟩
      · have hr0 := hb.ready
        obtain ⟨t, L', el, t1, t2, hL', hLj, hF, hleast⟩ := planIn_eq hfu l by' i L acc hlt hlen hL hok (by omega) hf fuel e (by omega) r1 hfit (fun s' g1 g2 g3 => absurd g3 (hmin s' g1 g2))
        have key : stream_hours_plan_l1 fuel l by' (m + 1) ((i : Int), L, acc) = stream_hours_plan_l1 fuel l by' m ((i : Int) + 1, L', acc ++ [t]) := by
          rw [stream_hours_plan_l1]
          refine Eq.trans (cond_t (decide_eq_true (by simp only; omega)) _ _) ?_
          refine Eq.trans (grd_pos (by simp only; omega) _) ?_
          rw [Int.toNat_natCast]
          refine Eq.trans (bind_ok es _) ?_
          refine Eq.trans (bind_ok el _) ?_
          refine Eq.trans (go_done _ _) ?_
          exact grd_pos (by simp only; omega) _
        obtain ⟨S, eS, hS, hlex⟩ := ih (i + 1) L' (acc ++ [t]) (by omega) (by omega) (by simp [ha]) hL' hF
        refine ⟨t :: S, ?_, okp_cons.2 ⟨⟨t1, t2.1⟩, hS.1, fun j hj => by have := hS.2 j hj; simp only at this ⊢; rw [← hLj j hj]; exact this⟩, fun S' hS' => ?_⟩
        · rw [key, show (i : Int) + 1 = ((i + 1 : Nat) : Int) by omega, eS]
          simp
        · cases S' with
          | nil => exact hS'.1.elim
          | cons u U =>
            have ho := okp_cons.1 hS'
            have hfu2 := fit_head hokd hS'
            by_cases htu : t < u
            · exact .inl htu
            · by_cases hut : u < t
              · exact absurd ⟨U, ho.2⟩ (hleast u ho.1.1 hut hfu2)
              · have : t = u := by omega
                subst this
                refine .inr ⟨rfl, hlex U ⟨ho.2.1, fun j hj => ?_⟩⟩
                have := ho.2.2 j hj
                simp only at this ⊢
                rw [hLj j hj]
                exact this
      · obtain ⟨S, hS⟩ := hf
        cases S with
        | nil => exact hS.1.elim
        | cons u U =>
          exact absurd (fit_head hokd hS) (hnone u (okp_cons.1 hS).1.1)
    · have : l.drop i = [] := List.drop_eq_nil_of_le (by omega)
      have key : stream_hours_plan_l1 fuel l by' (m + 1) ((i : Int), L, acc) = some (Lp.done acc) := by
        rw [stream_hours_plan_l1]
        exact cond_f (decide_eq_false (by simp only; omega)) _ _
      rw [key, this]
      refine ⟨[], by simp, ⟨trivial, fun j hj => ?_⟩, fun S' _ => trivial⟩
      unfold usage
      exact (hL.2 j hj).1
theorem plan_eq {fuel : Nat} (hfu : 1500 < fuel) {L : List Int} {l : List MBurner} {by' : Int} (hlen : l.length ≤ 1000) (hok : ∀ b ∈ l, OkB b) (hL : Good L) (hf : Fea (fun j => L.getD j 0) by' l) : ∃ S, stream_hours_plan fuel L l by' = some S ∧ Okp (fun j => L.getD j 0) by' l S ∧ ∀ S', Okp (fun j => L.getD j 0) by' l S' → LexLe S S' := by
  obtain ⟨S, e, h⟩ := planOut_eq hfu l by' hlen hok fuel 0 L [] (by omega) (by omega) rfl hL hf
  have e' : stream_hours_plan_l1 fuel l by' fuel (0, L, []) = _ := e
  refine ⟨S, ?_, h⟩
  unfold stream_hours_plan
  rw [bind_ok e']
  rfl
end Go.Proofs.Ytlcccomdijdkaaa
