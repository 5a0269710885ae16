/- Models and walks, printed by program. -/
import Derived.Test.YtnfahoomoelmcaaSyLay
namespace Go.Proofs.Ytnfahoomoelmcaa
open Go.RowKit Go.Proofs.Try
structure MSpan where
  lo : Int
  hi : Int
  deriving DecidableEq, Inhabited
structure MCurve where
  liquid : List Int
  vapour : List MSpan
  deriving DecidableEq, Inhabited
structure MPot where
  volume : Int
  alcohol : MSpan
  deriving DecidableEq, Inhabited
structure MDrawn where
  amount : Int
  alcohol : MSpan
  deriving DecidableEq, Inhabited

def still_R (c : MCurve) : List (Nat × Q) := [(0, ⟨c.liquid.length, 1, fun i => [.int .i64 (c.liquid.getD i default)]⟩), (1, ⟨c.vapour.length, 2, fun i => [.int .i64 (c.vapour.getD i default).lo, .int .i64 (c.vapour.getD i default).hi]⟩)]
/-- three blocks that hold a curve, the end of a vapour, and the way of dividing -/
def Thru (c : MCurve) (fe fd : Nat) (p0 p1 p2 : Value) (W : World) : Prop := ∃ b0 b1 b2 A0 c0 A1 c1, p0 = .pointer (some ⟨b0, 0, none⟩) ∧ p1 = .pointer (some ⟨b1, 0, none⟩) ∧ p2 = .pointer (some ⟨b2, 0, none⟩) ∧ b0 ≠ b1 ∧ b0 ≠ b2 ∧ b1 ≠ b2 ∧
  Blk W b0 25 #[.slice A0 c.liquid.length c0, .slice A1 c.vapour.length c1] ∧ Blk W b1 105 #[.func (.func fe) #[] #[]] ∧ Blk W b2 98 #[.func (.func fd) #[] #[]] ∧ c.liquid.length ≤ c0 ∧ (SlAt W A0 c.liquid.length 1 fun i => [.int .i64 (c.liquid.getD i default)]) ∧ c.vapour.length ≤ c1 ∧ (SlAt W A1 c.vapour.length 2 fun i => [.int .i64 (c.vapour.getD i default).lo, .int .i64 (c.vapour.getD i default).hi]) ∧
  InR (fun b => b ≠ b0 ∧ b ≠ b1 ∧ b ≠ b2 ∧ True) A0 c.liquid.length ∧ InR (fun b => b ≠ b0 ∧ b ≠ b1 ∧ b ≠ b2 ∧ True) A1 c.vapour.length
def Lines (c : MCurve) (v : Nat → Value) (w : World) : Prop := Thru c 67 68 (v 0) (v 1) (v 2) w ∧ Thru c 69 59 (v 3) (v 4) (v 5) w
def still_linesOf_1 (s : MSpan) : Option Int :=
some s.lo
set_option maxRecDepth 100000 in
set_option maxHeartbeats 4000000 in
theorem still_linesOf_1_ok (s : MSpan) (W : World)  (res : Int) (h : still_linesOf_1 s = some res) :
    Calls Go.Proofs.Try.prog 67 #[.agg #[.int .i64 s.lo, .int .i64 s.hi]] W fun e w' => e = .returned (.int .i64 res) ∧ Below W.heap.size W w' := by
  refine sym_call (f := 67) (fn := Go.Proofs.Try.f67) (c := Go.Proofs.Try.f67.body.get rfl) Go.Proofs.Try.func67 rfl [.agg [.v (.int .i64 s.lo), .v (.int .i64 s.hi)]] [] [] (envOf []) allR (fun _ _ => rfl) (by kernel_rfl) (envOf_one trivial) trivial (AllRR.all _ _) trivial fun E a w S => ?_
  rw [still_linesOf_1] at h
  refine sym_seq lay_ok mixed [(0, { g := 0 })] [1] [0] (⟨[(1, .own 0 0)], ⟨[(0, .blk 27 [.v (.int .i64 s.lo), .v (.int .i64 s.hi)])], [], []⟩⟩) [] S (by kernel_rfl) (by kernel_rfl) (by kernel_rfl) trivial ?_
  clear S; intro E a w S
  refine sym_seq lay_ok mixed [] [2] [] (⟨[(2, .v (.int .i64 s.lo))], ⟨[], [], []⟩⟩) [] S (by kernel_rfl) (by kernel_rfl) (by kernel_rfl) trivial ?_
  clear S; intro E a w S
  refine wp_ret ?_
  have h := Option.some.inj h
  subst h
  exact sym_ret lay_ok [.v (.int .i64 s.lo)] (by kernel_rfl) rfl S ⟨rfl, S.below rfl⟩
def still_down (a0 : Int) (b : Int) : Option Int :=
grd (¬ b = 0 ∧ InI64 (a0.tdiv b)) <|
some (a0.tdiv b)
set_option maxRecDepth 100000 in
set_option maxHeartbeats 4000000 in
theorem still_down_ok (a0 : Int) (b : Int) (W : World)  (res : Int) (h : still_down a0 b = some res) :
    Calls Go.Proofs.Try.prog 68 #[.int .i64 a0, .int .i64 b] W fun e w' => e = .returned (.int .i64 res) ∧ Below W.heap.size W w' := by
  refine sym_call (f := 68) (fn := Go.Proofs.Try.f68) (c := Go.Proofs.Try.f68.body.get rfl) Go.Proofs.Try.func68 rfl [.v (.int .i64 a0), .v (.int .i64 b)] [] [] (envOf []) allR (fun _ _ => rfl) (by kernel_rfl) (envOf_one trivial) trivial (AllRR.all _ _) trivial fun E a w S => ?_
  rw [still_down] at h
  refine sym_seq lay_ok mixed [] [0, 1] [] (⟨[(0, .v (.int .i64 a0)), (1, .v (.int .i64 b))], ⟨[], [], []⟩⟩) [] S (by kernel_rfl) (by kernel_rfl) (by kernel_rfl) trivial ?_
  clear S; intro E a w S
  obtain ⟨⟨g1, g2⟩, h⟩ := grd_some h
  refine sym_seq lay_ok mixed [] [4] [] (⟨[(4, .v (.int .i64 (a0.tdiv b)))], ⟨[], [], []⟩⟩) [.nz b, .rng .i64 (a0.tdiv b)] S (by kernel_rfl) (by kernel_rfl) (by kernel_rfl) ⟨g1, rngI64 g2, trivial⟩ ?_
  clear S; intro E a w S
  refine wp_ret ?_
  have h := Option.some.inj h
  subst h
  exact sym_ret lay_ok [.v (.int .i64 (a0.tdiv b))] (by kernel_rfl) rfl S ⟨rfl, S.below rfl⟩
def thruLow_k1 (c : MCurve) (liquid : Int) (x1 : Int) : Option Int :=
grd (InI64 (x1 - 1) ∧ ((0 : Int) ≤ (x1 - 1) ∧ ((x1 - 1) : Int) < ((c.vapour.length : Nat) : Int))) <|
(still_linesOf_1 (c.vapour.getD (Int.toNat (x1 - 1)) default)).bind fun (r1 : Int) =>
grd (((0 : Int) ≤ x1 ∧ (x1 : Int) < ((c.vapour.length : Nat) : Int))) <|
(still_linesOf_1 (c.vapour.getD (Int.toNat x1) default)).bind fun (r2 : Int) =>
grd (InI64 (r2 - r1) ∧ InI64 (x1 - 1) ∧ ((0 : Int) ≤ (x1 - 1) ∧ ((x1 - 1) : Int) < ((c.liquid.length : Nat) : Int)) ∧ InI64 (liquid - (c.liquid.getD (Int.toNat (x1 - 1)) default)) ∧ InI64 ((r2 - r1) * (liquid - (c.liquid.getD (Int.toNat (x1 - 1)) default))) ∧ ((0 : Int) ≤ x1 ∧ (x1 : Int) < ((c.liquid.length : Nat) : Int)) ∧ InI64 (x1 - 1) ∧ InI64 ((c.liquid.getD (Int.toNat x1) default) - (c.liquid.getD (Int.toNat (x1 - 1)) default))) <|
(still_down ((r2 - r1) * (liquid - (c.liquid.getD (Int.toNat (x1 - 1)) default))) ((c.liquid.getD (Int.toNat x1) default) - (c.liquid.getD (Int.toNat (x1 - 1)) default))).bind fun (r3 : Int) =>
grd (InI64 (r1 + r3)) <|
some (r1 + r3)
def thruLow_l1 (c : MCurve) (liquid : Int) : Nat → Int → Option (Lp Int Int)
  | 0, _ => none
  | n + 1, b1 =>
    grd (((0 : Int) ≤ b1 ∧ (b1 : Int) < ((c.liquid.length : Nat) : Int))) <|
    (bif decide ((c.liquid.getD (Int.toNat b1) default) < liquid) then
    (grd (InI64 (b1 + 1)) <|
    thruLow_l1 c liquid n (b1 + 1))
    else
    (some (Lp.done b1)))
def thruLow (fuel : Nat) (c : MCurve) (liquid : Int) : Option Int :=
(thruLow_l1 c liquid fuel 1).bind fun lr1 => lr1.go fun x1 => thruLow_k1 c liquid x1
set_option maxRecDepth 100000 in
set_option maxHeartbeats 4000000 in
theorem thruLow_ok (fuel : Nat) (c : MCurve) (liquid : Int) (p0 p1 p2 : Value) (W : World) (hp : Thru c 67 68 p0 p1 p2 W) (res : Int) (h : thruLow fuel c liquid = some res) :
    Calls Go.Proofs.Try.prog 74 #[.int .i64 liquid, p0, p1, p2] W fun e w' => e = .returned (.int .i64 res) ∧ Below W.heap.size W w' := by
  obtain ⟨b0, b1, b2, A0, c0, A1, c1, rfl, rfl, rfl, n01, n02, n12, B0, B1, B2, h0, s0, h1, s1, r0, r1⟩ := hp
  have hA : ApartCB [⟨1000, b0, 25, [.sl 0, .sl 1]⟩, ⟨1001, b1, 105, [.v (.func (.func 67) #[] #[])]⟩, ⟨1002, b2, 98, [.v (.func (.func 68) #[] #[])]⟩] := ⟨⟨n01, n02, trivial⟩, ⟨n12, trivial⟩, trivial, trivial⟩
  have hB : AllCB W (envC [(0, ⟨A0, c.liquid.length, c0, 1⟩), (1, ⟨A1, c.vapour.length, c1, 2⟩)] [] [⟨1000, b0, 25, [.sl 0, .sl 1]⟩, ⟨1001, b1, 105, [.v (.func (.func 67) #[] #[])]⟩, ⟨1002, b2, 98, [.v (.func (.func 68) #[] #[])]⟩]) [⟨1000, b0, 25, [.sl 0, .sl 1]⟩, ⟨1001, b1, 105, [.v (.func (.func 67) #[] #[])]⟩, ⟨1002, b2, 98, [.v (.func (.func 68) #[] #[])]⟩] := ⟨B0, B1, B2, trivial⟩
  refine sym_closure (f := 74) (fn := Go.Proofs.Try.f74) (c := Go.Proofs.Try.f74.body.get rfl) Go.Proofs.Try.func74 rfl [.v (.int .i64 liquid), .own 1000 0, .own 1001 0, .own 1002 0] (still_R c) [(0, ⟨A0, c.liquid.length, c0, 1⟩), (1, ⟨A1, c.vapour.length, c1, 2⟩)] [⟨1000, b0, 25, [.sl 0, .sl 1]⟩, ⟨1001, b1, 105, [.v (.func (.func 67) #[] #[])]⟩, ⟨1002, b2, 98, [.v (.func (.func 68) #[] #[])]⟩] [(1000, .blk 25 [.sl 0, .sl 1]), (1001, .blk 105 [.v (.func (.func 67) #[] #[])]), (1002, .blk 98 [.v (.func (.func 68) #[] #[])])] rfl (by kernel_rfl) hB hA ⟨s0.rd h0, s1.rd h1, trivial⟩ ⟨r0, r1, trivial⟩ fun E a w S => ?_
  rw [thruLow] at h
  refine sym_seq lay_ok mixed [] [0, 1, 2, 3] [1000, 1001, 1002] (⟨[(0, .v (.int .i64 liquid)), (1, .own 1000 0), (2, .own 1001 0), (3, .own 1002 0)], ⟨[(1000, .blk 25 [.sl 0, .sl 1]), (1001, .blk 105 [.v (.func (.func 67) #[] #[])]), (1002, .blk 98 [.v (.func (.func 68) #[] #[])])], (still_R c), []⟩⟩) [] S (by kernel_rfl) (by kernel_rfl) (by kernel_rfl) trivial ?_
  clear S; intro E a w S
  refine sym_seq lay_ok mixed [] [0, 1, 2, 3, 6] [1000, 1001, 1002] (⟨[(0, .v (.int .i64 liquid)), (1, .own 1000 0), (2, .own 1001 0), (3, .own 1002 0), (6, .v (.int .i64 1))], ⟨[(1000, .blk 25 [.sl 0, .sl 1]), (1001, .blk 105 [.v (.func (.func 67) #[] #[])]), (1002, .blk 98 [.v (.func (.func 68) #[] #[])])], (still_R c), []⟩⟩) [] S (by kernel_rfl) (by kernel_rfl) (by kernel_rfl) trivial ?_
  clear S; intro E a w S
  obtain ⟨lr1, e1, hp1⟩ := bind_some h
  clear h
  refine sym_block_meet (G := fun a w => ∃ E, ∃ x1 : Int, thruLow_k1 c liquid x1 = some res ∧ St ⟨W, inCB [⟨1000, b0, 25, [.sl 0, .sl 1]⟩, ⟨1001, b1, 105, [.v (.func (.func 67) #[] #[])]⟩, ⟨1002, b2, 98, [.v (.func (.func 68) #[] #[])]⟩], Go.Proofs.Try.f74.ntmps, [], allR, rhoOf [⟨1000, b0, 25, [.sl 0, .sl 1]⟩, ⟨1001, b1, 105, [.v (.func (.func 67) #[] #[])]⟩, ⟨1002, b2, 98, [.v (.func (.func 68) #[] #[])]⟩], (envOf [(0, ⟨A0, c.liquid.length, c0, 1⟩), (1, ⟨A1, c.vapour.length, c1, 2⟩)]).sl, (envOf [(0, ⟨A0, c.liquid.length, c0, 1⟩), (1, ⟨A1, c.vapour.length, c1, 2⟩)]).x⟩ (⟨[(0, .v (.int .i64 liquid)), (1, .own 1000 0), (2, .own 1001 0), (3, .own 1002 0), (6, .v (.int .i64 x1))], ⟨[(1000, .blk 25 [.sl 0, .sl 1]), (1001, .blk 105 [.v (.func (.func 67) #[] #[])]), (1002, .blk 98 [.v (.func (.func 68) #[] #[])])], (still_R c), []⟩⟩) E a w) ?_ ?_
  · refine wp_loop_rounds fuel ?_
    refine sym_rounds (F := fun n b1 => thruLow_l1 c liquid n b1 = some lr1) (H := fun b1 => ⟨[(0, .v (.int .i64 liquid)), (1, .own 1000 0), (2, .own 1001 0), (3, .own 1002 0), (6, .v (.int .i64 b1))], ⟨[(1000, .blk 25 [.sl 0, .sl 1]), (1001, .blk 105 [.v (.func (.func 67) #[] #[])]), (1002, .blk 98 [.v (.func (.func 68) #[] #[])])], (still_R c), []⟩⟩) 1 (fun b hb => by have hb : none = some lr1 := hb; cases hb) ?_ _ _ _ _ e1 (St.cast (P := Go.Proofs.Try.prog) [] [] [0, 1, 2, 3, 6] [1000, 1001, 1002] [0, 1] _ [] (by kernel_rfl) trivial S)
    clear e1 S
    intro n b1 E a w h ih S
    rw [thruLow_l1] at h
    refine wp_seq ?_
    obtain ⟨g1, h⟩ := grd_some h
    refine sym_seq lay_ok mixed [] [0, 1, 2, 3, 6, 15] [1000, 1001, 1002] (⟨[(0, .v (.int .i64 liquid)), (1, .own 1000 0), (2, .own 1001 0), (3, .own 1002 0), (6, .v (.int .i64 b1)), (15, .v (.bool (decide ((c.liquid.getD (Int.toNat b1) default) < liquid))))], ⟨[(1000, .blk 25 [.sl 0, .sl 1]), (1001, .blk 105 [.v (.func (.func 67) #[] #[])]), (1002, .blk 98 [.v (.func (.func 68) #[] #[])])], (still_R c), []⟩⟩) [.idx b1 c.liquid.length, .idx b1 c.liquid.length] S (by kernel_rfl) (by kernel_rfl) (by kernel_rfl) ⟨g1, g1, trivial⟩ ?_
    clear S; intro E a w S
    refine sym_if_last (b := decide ((c.liquid.getD (Int.toNat b1) default) < liquid)) S rfl (fun hb1 => ?_) (fun hb1 => ?_)
    · have h := bif_t hb1 h
      refine wp_skip ?_
      refine out_then_normal ?_
      refine wp_block ?_
      obtain ⟨g2, h⟩ := grd_some h
      refine sym_last lay_ok mixed [] [0, 1, 2, 3, 6] [1000, 1001, 1002] (⟨[(0, .v (.int .i64 liquid)), (1, .own 1000 0), (2, .own 1001 0), (3, .own 1002 0), (6, .v (.int .i64 (b1 + 1)))], ⟨[(1000, .blk 25 [.sl 0, .sl 1]), (1001, .blk 105 [.v (.func (.func 67) #[] #[])]), (1002, .blk 98 [.v (.func (.func 68) #[] #[])])], (still_R c), []⟩⟩) [.rng .i64 (b1 + 1)] S (by kernel_rfl) (by kernel_rfl) (by kernel_rfl) ⟨rngI64 g2, trivial⟩ ?_
      clear S; intro E a w S
      refine out_block_normal ?_
      refine out_then_normal ?_
      exact ih (b1 + 1) _ _ _ h (St.cast (P := Go.Proofs.Try.prog) [] [] [0, 1, 2, 3, 6] [1000, 1001, 1002] [0, 1] _ [] (by kernel_rfl) trivial S)
    · have h := bif_f hb1 h
      refine wp_exit ?_
      refine out_then_exit ?_
      refine out_then_exit ?_
      refine out_block_here ?_
      refine out_then_normal ?_
      have hr := Option.some.inj h
      subst hr
      exact ⟨_, b1, hp1, St.cast (P := Go.Proofs.Try.prog) [] [] [0, 1, 2, 3, 6] [1000, 1001, 1002] [0, 1] _ [] (by kernel_rfl) trivial S⟩
  clear e1 S
  rintro a w ⟨E, x1, h, S⟩
  rw [thruLow_k1] at h
  obtain ⟨⟨g3, g4⟩, h⟩ := grd_some h
  obtain ⟨r1, e2, h⟩ := bind_some h
  obtain ⟨g5, h⟩ := grd_some h
  obtain ⟨r2, e3, h⟩ := bind_some h
  refine sym_seq lay_ok mixed [(7, { res := .v (.int .i64 r1) }), (14, { res := .v (.int .i64 r2) })] [0, 1, 3, 6, 7, 8] [1000, 1001, 1002] (⟨[(0, .v (.int .i64 liquid)), (1, .own 1000 0), (3, .own 1002 0), (6, .v (.int .i64 x1)), (7, .v (.int .i64 r1)), (8, .v (.int .i64 r2))], ⟨[(1000, .blk 25 [.sl 0, .sl 1]), (1001, .blk 105 [.v (.func (.func 67) #[] #[])]), (1002, .blk 98 [.v (.func (.func 68) #[] #[])])], (still_R c), []⟩⟩) [.rng .i64 (x1 - 1), .idx (x1 - 1) c.vapour.length, .idx (x1 - 1) c.vapour.length, .call ⟨[], (still_R c), []⟩ 67 [.agg [.v (.int .i64 ((c.vapour.getD (Int.toNat (x1 - 1)) default).lo)), .v (.int .i64 ((c.vapour.getD (Int.toNat (x1 - 1)) default).hi))]] (.v (.int .i64 r1)), .idx x1 c.vapour.length, .idx x1 c.vapour.length, .call ⟨[], (still_R c), []⟩ 67 [.agg [.v (.int .i64 ((c.vapour.getD (Int.toNat x1) default).lo)), .v (.int .i64 ((c.vapour.getD (Int.toNat x1) default).hi))]] (.v (.int .i64 r2))] S (by kernel_rfl) (by kernel_rfl) (by kernel_rfl) ⟨rngI64 g3, g4, g4, ⟨enters_67, fun _ W _ _ => still_linesOf_1_ok (c.vapour.getD (Int.toNat (x1 - 1)) default) W r1 e2⟩, g5, g5, ⟨enters_67, fun _ W _ _ => still_linesOf_1_ok (c.vapour.getD (Int.toNat x1) default) W r2 e3⟩, trivial⟩ ?_
  clear S; intro E a w S
  obtain ⟨⟨g6, g7, g8, g9, g10, g11, g12, g13⟩, h⟩ := grd_some h
  obtain ⟨r3, e4, h⟩ := bind_some h
  obtain ⟨g14, h⟩ := grd_some h
  refine sym_seq lay_ok mixed [(26, { res := .v (.int .i64 r3) })] [5] [1000, 1001, 1002] (⟨[(5, .v (.int .i64 (r1 + r3)))], ⟨[(1000, .blk 25 [.sl 0, .sl 1]), (1001, .blk 105 [.v (.func (.func 67) #[] #[])]), (1002, .blk 98 [.v (.func (.func 68) #[] #[])])], (still_R c), []⟩⟩) [.rng .i64 (r2 - r1), .rng .i64 (x1 - 1), .idx (x1 - 1) c.liquid.length, .idx (x1 - 1) c.liquid.length, .rng .i64 (liquid - (c.liquid.getD (Int.toNat (x1 - 1)) default)), .rng .i64 ((r2 - r1) * (liquid - (c.liquid.getD (Int.toNat (x1 - 1)) default))), .idx x1 c.liquid.length, .idx x1 c.liquid.length, .rng .i64 (x1 - 1), .idx (x1 - 1) c.liquid.length, .idx (x1 - 1) c.liquid.length, .rng .i64 ((c.liquid.getD (Int.toNat x1) default) - (c.liquid.getD (Int.toNat (x1 - 1)) default)), .call ⟨[], (still_R c), []⟩ 68 [.v (.int .i64 ((r2 - r1) * (liquid - (c.liquid.getD (Int.toNat (x1 - 1)) default)))), .v (.int .i64 ((c.liquid.getD (Int.toNat x1) default) - (c.liquid.getD (Int.toNat (x1 - 1)) default)))] (.v (.int .i64 r3)), .rng .i64 (r1 + r3)] S (by kernel_rfl) (by kernel_rfl) (by kernel_rfl) ⟨rngI64 g6, rngI64 g7, g8, g8, rngI64 g9, rngI64 g10, g11, g11, rngI64 g12, g8, g8, rngI64 g13, ⟨enters_68, fun _ W _ _ => still_down_ok ((r2 - r1) * (liquid - (c.liquid.getD (Int.toNat (x1 - 1)) default))) ((c.liquid.getD (Int.toNat x1) default) - (c.liquid.getD (Int.toNat (x1 - 1)) default)) W r3 e4⟩, rngI64 g14, trivial⟩ ?_
  clear S; intro E a w S
  refine wp_ret ?_
  have h := Option.some.inj h
  subst h
  exact sym_ret lay_ok [.v (.int .i64 (r1 + r3))] (by kernel_rfl) rfl S ⟨rfl, S.below_cb (cbs := [⟨1000, b0, 25, [.sl 0, .sl 1]⟩, ⟨1001, b1, 105, [.v (.func (.func 67) #[] #[])]⟩, ⟨1002, b2, 98, [.v (.func (.func 68) #[] #[])]⟩]) (rds0 := [(0, ⟨A0, c.liquid.length, c0, 1⟩), (1, ⟨A1, c.vapour.length, c1, 2⟩)]) rfl rfl rfl ⟨rfl, rfl, rfl, trivial⟩ rfl hA (show [1000, 1001, 1002].Nodup by decide) hB rfl⟩
def still_linesOf_2 (s : MSpan) : Option Int :=
some s.hi
set_option maxRecDepth 100000 in
set_option maxHeartbeats 4000000 in
theorem still_linesOf_2_ok (s : MSpan) (W : World)  (res : Int) (h : still_linesOf_2 s = some res) :
    Calls Go.Proofs.Try.prog 69 #[.agg #[.int .i64 s.lo, .int .i64 s.hi]] W fun e w' => e = .returned (.int .i64 res) ∧ Below W.heap.size W w' := by
  refine sym_call (f := 69) (fn := Go.Proofs.Try.f69) (c := Go.Proofs.Try.f69.body.get rfl) Go.Proofs.Try.func69 rfl [.agg [.v (.int .i64 s.lo), .v (.int .i64 s.hi)]] [] [] (envOf []) allR (fun _ _ => rfl) (by kernel_rfl) (envOf_one trivial) trivial (AllRR.all _ _) trivial fun E a w S => ?_
  rw [still_linesOf_2] at h
  refine sym_seq lay_ok mixed [(0, { g := 0 })] [1] [0] (⟨[(1, .own 0 0)], ⟨[(0, .blk 27 [.v (.int .i64 s.lo), .v (.int .i64 s.hi)])], [], []⟩⟩) [] S (by kernel_rfl) (by kernel_rfl) (by kernel_rfl) trivial ?_
  clear S; intro E a w S
  refine sym_seq lay_ok mixed [] [2] [] (⟨[(2, .v (.int .i64 s.hi))], ⟨[], [], []⟩⟩) [] S (by kernel_rfl) (by kernel_rfl) (by kernel_rfl) trivial ?_
  clear S; intro E a w S
  refine wp_ret ?_
  have h := Option.some.inj h
  subst h
  exact sym_ret lay_ok [.v (.int .i64 s.hi)] (by kernel_rfl) rfl S ⟨rfl, S.below rfl⟩
def still_up (a0 : Int) (b : Int) : Option Int :=
grd (InI64 (a0 + b) ∧ InI64 ((a0 + b) - 1) ∧ ¬ b = 0 ∧ InI64 (((a0 + b) - 1).tdiv b)) <|
some (((a0 + b) - 1).tdiv b)
set_option maxRecDepth 100000 in
set_option maxHeartbeats 4000000 in
theorem still_up_ok (a0 : Int) (b : Int) (W : World)  (res : Int) (h : still_up a0 b = some res) :
    Calls Go.Proofs.Try.prog 59 #[.int .i64 a0, .int .i64 b] W fun e w' => e = .returned (.int .i64 res) ∧ Below W.heap.size W w' := by
  refine sym_call (f := 59) (fn := Go.Proofs.Try.f59) (c := Go.Proofs.Try.f59.body.get rfl) Go.Proofs.Try.func59 rfl [.v (.int .i64 a0), .v (.int .i64 b)] [] [] (envOf []) allR (fun _ _ => rfl) (by kernel_rfl) (envOf_one trivial) trivial (AllRR.all _ _) trivial fun E a w S => ?_
  rw [still_up] at h
  refine sym_seq lay_ok mixed [] [0, 1] [] (⟨[(0, .v (.int .i64 a0)), (1, .v (.int .i64 b))], ⟨[], [], []⟩⟩) [] S (by kernel_rfl) (by kernel_rfl) (by kernel_rfl) trivial ?_
  clear S; intro E a w S
  obtain ⟨⟨g1, g2, g3, g4⟩, h⟩ := grd_some h
  refine sym_seq lay_ok mixed [] [4] [] (⟨[(4, .v (.int .i64 (((a0 + b) - 1).tdiv b)))], ⟨[], [], []⟩⟩) [.rng .i64 (a0 + b), .rng .i64 ((a0 + b) - 1), .nz b, .rng .i64 (((a0 + b) - 1).tdiv b)] S (by kernel_rfl) (by kernel_rfl) (by kernel_rfl) ⟨rngI64 g1, rngI64 g2, g3, rngI64 g4, trivial⟩ ?_
  clear S; intro E a w S
  refine wp_ret ?_
  have h := Option.some.inj h
  subst h
  exact sym_ret lay_ok [.v (.int .i64 (((a0 + b) - 1).tdiv b))] (by kernel_rfl) rfl S ⟨rfl, S.below rfl⟩
def thruHigh_k1 (c : MCurve) (liquid : Int) (x1 : Int) : Option Int :=
grd (InI64 (x1 - 1) ∧ ((0 : Int) ≤ (x1 - 1) ∧ ((x1 - 1) : Int) < ((c.vapour.length : Nat) : Int))) <|
(still_linesOf_2 (c.vapour.getD (Int.toNat (x1 - 1)) default)).bind fun (r1 : Int) =>
grd (((0 : Int) ≤ x1 ∧ (x1 : Int) < ((c.vapour.length : Nat) : Int))) <|
(still_linesOf_2 (c.vapour.getD (Int.toNat x1) default)).bind fun (r2 : Int) =>
grd (InI64 (r2 - r1) ∧ InI64 (x1 - 1) ∧ ((0 : Int) ≤ (x1 - 1) ∧ ((x1 - 1) : Int) < ((c.liquid.length : Nat) : Int)) ∧ InI64 (liquid - (c.liquid.getD (Int.toNat (x1 - 1)) default)) ∧ InI64 ((r2 - r1) * (liquid - (c.liquid.getD (Int.toNat (x1 - 1)) default))) ∧ ((0 : Int) ≤ x1 ∧ (x1 : Int) < ((c.liquid.length : Nat) : Int)) ∧ InI64 (x1 - 1) ∧ InI64 ((c.liquid.getD (Int.toNat x1) default) - (c.liquid.getD (Int.toNat (x1 - 1)) default))) <|
(still_up ((r2 - r1) * (liquid - (c.liquid.getD (Int.toNat (x1 - 1)) default))) ((c.liquid.getD (Int.toNat x1) default) - (c.liquid.getD (Int.toNat (x1 - 1)) default))).bind fun (r3 : Int) =>
grd (InI64 (r1 + r3)) <|
some (r1 + r3)
def thruHigh_l1 (c : MCurve) (liquid : Int) : Nat → Int → Option (Lp Int Int)
  | 0, _ => none
  | n + 1, b1 =>
    grd (((0 : Int) ≤ b1 ∧ (b1 : Int) < ((c.liquid.length : Nat) : Int))) <|
    (bif decide ((c.liquid.getD (Int.toNat b1) default) < liquid) then
    (grd (InI64 (b1 + 1)) <|
    thruHigh_l1 c liquid n (b1 + 1))
    else
    (some (Lp.done b1)))
def thruHigh (fuel : Nat) (c : MCurve) (liquid : Int) : Option Int :=
(thruHigh_l1 c liquid fuel 1).bind fun lr1 => lr1.go fun x1 => thruHigh_k1 c liquid x1
set_option maxRecDepth 100000 in
set_option maxHeartbeats 4000000 in
theorem thruHigh_ok (fuel : Nat) (c : MCurve) (liquid : Int) (p0 p1 p2 : Value) (W : World) (hp : Thru c 69 59 p0 p1 p2 W) (res : Int) (h : thruHigh fuel c liquid = some res) :
    Calls Go.Proofs.Try.prog 74 #[.int .i64 liquid, p0, p1, p2] W fun e w' => e = .returned (.int .i64 res) ∧ Below W.heap.size W w' := by
  obtain ⟨b0, b1, b2, A0, c0, A1, c1, rfl, rfl, rfl, n01, n02, n12, B0, B1, B2, h0, s0, h1, s1, r0, r1⟩ := hp
  have hA : ApartCB [⟨1000, b0, 25, [.sl 0, .sl 1]⟩, ⟨1001, b1, 105, [.v (.func (.func 69) #[] #[])]⟩, ⟨1002, b2, 98, [.v (.func (.func 59) #[] #[])]⟩] := ⟨⟨n01, n02, trivial⟩, ⟨n12, trivial⟩, trivial, trivial⟩
  have hB : AllCB W (envC [(0, ⟨A0, c.liquid.length, c0, 1⟩), (1, ⟨A1, c.vapour.length, c1, 2⟩)] [] [⟨1000, b0, 25, [.sl 0, .sl 1]⟩, ⟨1001, b1, 105, [.v (.func (.func 69) #[] #[])]⟩, ⟨1002, b2, 98, [.v (.func (.func 59) #[] #[])]⟩]) [⟨1000, b0, 25, [.sl 0, .sl 1]⟩, ⟨1001, b1, 105, [.v (.func (.func 69) #[] #[])]⟩, ⟨1002, b2, 98, [.v (.func (.func 59) #[] #[])]⟩] := ⟨B0, B1, B2, trivial⟩
  refine sym_closure (f := 74) (fn := Go.Proofs.Try.f74) (c := Go.Proofs.Try.f74.body.get rfl) Go.Proofs.Try.func74 rfl [.v (.int .i64 liquid), .own 1000 0, .own 1001 0, .own 1002 0] (still_R c) [(0, ⟨A0, c.liquid.length, c0, 1⟩), (1, ⟨A1, c.vapour.length, c1, 2⟩)] [⟨1000, b0, 25, [.sl 0, .sl 1]⟩, ⟨1001, b1, 105, [.v (.func (.func 69) #[] #[])]⟩, ⟨1002, b2, 98, [.v (.func (.func 59) #[] #[])]⟩] [(1000, .blk 25 [.sl 0, .sl 1]), (1001, .blk 105 [.v (.func (.func 69) #[] #[])]), (1002, .blk 98 [.v (.func (.func 59) #[] #[])])] rfl (by kernel_rfl) hB hA ⟨s0.rd h0, s1.rd h1, trivial⟩ ⟨r0, r1, trivial⟩ fun E a w S => ?_
  rw [thruHigh] at h
  refine sym_seq lay_ok mixed [] [0, 1, 2, 3] [1000, 1001, 1002] (⟨[(0, .v (.int .i64 liquid)), (1, .own 1000 0), (2, .own 1001 0), (3, .own 1002 0)], ⟨[(1000, .blk 25 [.sl 0, .sl 1]), (1001, .blk 105 [.v (.func (.func 69) #[] #[])]), (1002, .blk 98 [.v (.func (.func 59) #[] #[])])], (still_R c), []⟩⟩) [] S (by kernel_rfl) (by kernel_rfl) (by kernel_rfl) trivial ?_
  clear S; intro E a w S
  refine sym_seq lay_ok mixed [] [0, 1, 2, 3, 6] [1000, 1001, 1002] (⟨[(0, .v (.int .i64 liquid)), (1, .own 1000 0), (2, .own 1001 0), (3, .own 1002 0), (6, .v (.int .i64 1))], ⟨[(1000, .blk 25 [.sl 0, .sl 1]), (1001, .blk 105 [.v (.func (.func 69) #[] #[])]), (1002, .blk 98 [.v (.func (.func 59) #[] #[])])], (still_R c), []⟩⟩) [] S (by kernel_rfl) (by kernel_rfl) (by kernel_rfl) trivial ?_
  clear S; intro E a w S
  obtain ⟨lr1, e1, hp1⟩ := bind_some h
  clear h
  refine sym_block_meet (G := fun a w => ∃ E, ∃ x1 : Int, thruHigh_k1 c liquid x1 = some res ∧ St ⟨W, inCB [⟨1000, b0, 25, [.sl 0, .sl 1]⟩, ⟨1001, b1, 105, [.v (.func (.func 69) #[] #[])]⟩, ⟨1002, b2, 98, [.v (.func (.func 59) #[] #[])]⟩], Go.Proofs.Try.f74.ntmps, [], allR, rhoOf [⟨1000, b0, 25, [.sl 0, .sl 1]⟩, ⟨1001, b1, 105, [.v (.func (.func 69) #[] #[])]⟩, ⟨1002, b2, 98, [.v (.func (.func 59) #[] #[])]⟩], (envOf [(0, ⟨A0, c.liquid.length, c0, 1⟩), (1, ⟨A1, c.vapour.length, c1, 2⟩)]).sl, (envOf [(0, ⟨A0, c.liquid.length, c0, 1⟩), (1, ⟨A1, c.vapour.length, c1, 2⟩)]).x⟩ (⟨[(0, .v (.int .i64 liquid)), (1, .own 1000 0), (2, .own 1001 0), (3, .own 1002 0), (6, .v (.int .i64 x1))], ⟨[(1000, .blk 25 [.sl 0, .sl 1]), (1001, .blk 105 [.v (.func (.func 69) #[] #[])]), (1002, .blk 98 [.v (.func (.func 59) #[] #[])])], (still_R c), []⟩⟩) E a w) ?_ ?_
  · refine wp_loop_rounds fuel ?_
    refine sym_rounds (F := fun n b1 => thruHigh_l1 c liquid n b1 = some lr1) (H := fun b1 => ⟨[(0, .v (.int .i64 liquid)), (1, .own 1000 0), (2, .own 1001 0), (3, .own 1002 0), (6, .v (.int .i64 b1))], ⟨[(1000, .blk 25 [.sl 0, .sl 1]), (1001, .blk 105 [.v (.func (.func 69) #[] #[])]), (1002, .blk 98 [.v (.func (.func 59) #[] #[])])], (still_R c), []⟩⟩) 1 (fun b hb => by have hb : none = some lr1 := hb; cases hb) ?_ _ _ _ _ e1 (St.cast (P := Go.Proofs.Try.prog) [] [] [0, 1, 2, 3, 6] [1000, 1001, 1002] [0, 1] _ [] (by kernel_rfl) trivial S)
    clear e1 S
    intro n b1 E a w h ih S
    rw [thruHigh_l1] at h
    refine wp_seq ?_
    obtain ⟨g1, h⟩ := grd_some h
    refine sym_seq lay_ok mixed [] [0, 1, 2, 3, 6, 15] [1000, 1001, 1002] (⟨[(0, .v (.int .i64 liquid)), (1, .own 1000 0), (2, .own 1001 0), (3, .own 1002 0), (6, .v (.int .i64 b1)), (15, .v (.bool (decide ((c.liquid.getD (Int.toNat b1) default) < liquid))))], ⟨[(1000, .blk 25 [.sl 0, .sl 1]), (1001, .blk 105 [.v (.func (.func 69) #[] #[])]), (1002, .blk 98 [.v (.func (.func 59) #[] #[])])], (still_R c), []⟩⟩) [.idx b1 c.liquid.length, .idx b1 c.liquid.length] S (by kernel_rfl) (by kernel_rfl) (by kernel_rfl) ⟨g1, g1, trivial⟩ ?_
    clear S; intro E a w S
    refine sym_if_last (b := decide ((c.liquid.getD (Int.toNat b1) default) < liquid)) S rfl (fun hb1 => ?_) (fun hb1 => ?_)
    · have h := bif_t hb1 h
      refine wp_skip ?_
      refine out_then_normal ?_
      refine wp_block ?_
      obtain ⟨g2, h⟩ := grd_some h
      refine sym_last lay_ok mixed [] [0, 1, 2, 3, 6] [1000, 1001, 1002] (⟨[(0, .v (.int .i64 liquid)), (1, .own 1000 0), (2, .own 1001 0), (3, .own 1002 0), (6, .v (.int .i64 (b1 + 1)))], ⟨[(1000, .blk 25 [.sl 0, .sl 1]), (1001, .blk 105 [.v (.func (.func 69) #[] #[])]), (1002, .blk 98 [.v (.func (.func 59) #[] #[])])], (still_R c), []⟩⟩) [.rng .i64 (b1 + 1)] S (by kernel_rfl) (by kernel_rfl) (by kernel_rfl) ⟨rngI64 g2, trivial⟩ ?_
      clear S; intro E a w S
      refine out_block_normal ?_
      refine out_then_normal ?_
      exact ih (b1 + 1) _ _ _ h (St.cast (P := Go.Proofs.Try.prog) [] [] [0, 1, 2, 3, 6] [1000, 1001, 1002] [0, 1] _ [] (by kernel_rfl) trivial S)
    · have h := bif_f hb1 h
      refine wp_exit ?_
      refine out_then_exit ?_
      refine out_then_exit ?_
      refine out_block_here ?_
      refine out_then_normal ?_
      have hr := Option.some.inj h
      subst hr
      exact ⟨_, b1, hp1, St.cast (P := Go.Proofs.Try.prog) [] [] [0, 1, 2, 3, 6] [1000, 1001, 1002] [0, 1] _ [] (by kernel_rfl) trivial S⟩
  clear e1 S
  rintro a w ⟨E, x1, h, S⟩
  rw [thruHigh_k1] at h
  obtain ⟨⟨g3, g4⟩, h⟩ := grd_some h
  obtain ⟨r1, e2, h⟩ := bind_some h
  obtain ⟨g5, h⟩ := grd_some h
  obtain ⟨r2, e3, h⟩ := bind_some h
  refine sym_seq lay_ok mixed [(7, { res := .v (.int .i64 r1) }), (14, { res := .v (.int .i64 r2) })] [0, 1, 3, 6, 7, 8] [1000, 1001, 1002] (⟨[(0, .v (.int .i64 liquid)), (1, .own 1000 0), (3, .own 1002 0), (6, .v (.int .i64 x1)), (7, .v (.int .i64 r1)), (8, .v (.int .i64 r2))], ⟨[(1000, .blk 25 [.sl 0, .sl 1]), (1001, .blk 105 [.v (.func (.func 69) #[] #[])]), (1002, .blk 98 [.v (.func (.func 59) #[] #[])])], (still_R c), []⟩⟩) [.rng .i64 (x1 - 1), .idx (x1 - 1) c.vapour.length, .idx (x1 - 1) c.vapour.length, .call ⟨[], (still_R c), []⟩ 69 [.agg [.v (.int .i64 ((c.vapour.getD (Int.toNat (x1 - 1)) default).lo)), .v (.int .i64 ((c.vapour.getD (Int.toNat (x1 - 1)) default).hi))]] (.v (.int .i64 r1)), .idx x1 c.vapour.length, .idx x1 c.vapour.length, .call ⟨[], (still_R c), []⟩ 69 [.agg [.v (.int .i64 ((c.vapour.getD (Int.toNat x1) default).lo)), .v (.int .i64 ((c.vapour.getD (Int.toNat x1) default).hi))]] (.v (.int .i64 r2))] S (by kernel_rfl) (by kernel_rfl) (by kernel_rfl) ⟨rngI64 g3, g4, g4, ⟨enters_69, fun _ W _ _ => still_linesOf_2_ok (c.vapour.getD (Int.toNat (x1 - 1)) default) W r1 e2⟩, g5, g5, ⟨enters_69, fun _ W _ _ => still_linesOf_2_ok (c.vapour.getD (Int.toNat x1) default) W r2 e3⟩, trivial⟩ ?_
  clear S; intro E a w S
  obtain ⟨⟨g6, g7, g8, g9, g10, g11, g12, g13⟩, h⟩ := grd_some h
  obtain ⟨r3, e4, h⟩ := bind_some h
  obtain ⟨g14, h⟩ := grd_some h
  refine sym_seq lay_ok mixed [(26, { res := .v (.int .i64 r3) })] [5] [1000, 1001, 1002] (⟨[(5, .v (.int .i64 (r1 + r3)))], ⟨[(1000, .blk 25 [.sl 0, .sl 1]), (1001, .blk 105 [.v (.func (.func 69) #[] #[])]), (1002, .blk 98 [.v (.func (.func 59) #[] #[])])], (still_R c), []⟩⟩) [.rng .i64 (r2 - r1), .rng .i64 (x1 - 1), .idx (x1 - 1) c.liquid.length, .idx (x1 - 1) c.liquid.length, .rng .i64 (liquid - (c.liquid.getD (Int.toNat (x1 - 1)) default)), .rng .i64 ((r2 - r1) * (liquid - (c.liquid.getD (Int.toNat (x1 - 1)) default))), .idx x1 c.liquid.length, .idx x1 c.liquid.length, .rng .i64 (x1 - 1), .idx (x1 - 1) c.liquid.length, .idx (x1 - 1) c.liquid.length, .rng .i64 ((c.liquid.getD (Int.toNat x1) default) - (c.liquid.getD (Int.toNat (x1 - 1)) default)), .call ⟨[], (still_R c), []⟩ 59 [.v (.int .i64 ((r2 - r1) * (liquid - (c.liquid.getD (Int.toNat (x1 - 1)) default)))), .v (.int .i64 ((c.liquid.getD (Int.toNat x1) default) - (c.liquid.getD (Int.toNat (x1 - 1)) default)))] (.v (.int .i64 r3)), .rng .i64 (r1 + r3)] S (by kernel_rfl) (by kernel_rfl) (by kernel_rfl) ⟨rngI64 g6, rngI64 g7, g8, g8, rngI64 g9, rngI64 g10, g11, g11, rngI64 g12, g8, g8, rngI64 g13, ⟨enters_59, fun _ W _ _ => still_up_ok ((r2 - r1) * (liquid - (c.liquid.getD (Int.toNat (x1 - 1)) default))) ((c.liquid.getD (Int.toNat x1) default) - (c.liquid.getD (Int.toNat (x1 - 1)) default)) W r3 e4⟩, rngI64 g14, trivial⟩ ?_
  clear S; intro E a w S
  refine wp_ret ?_
  have h := Option.some.inj h
  subst h
  exact sym_ret lay_ok [.v (.int .i64 (r1 + r3))] (by kernel_rfl) rfl S ⟨rfl, S.below_cb (cbs := [⟨1000, b0, 25, [.sl 0, .sl 1]⟩, ⟨1001, b1, 105, [.v (.func (.func 69) #[] #[])]⟩, ⟨1002, b2, 98, [.v (.func (.func 59) #[] #[])]⟩]) (rds0 := [(0, ⟨A0, c.liquid.length, c0, 1⟩), (1, ⟨A1, c.vapour.length, c1, 2⟩)]) rfl rfl rfl ⟨rfl, rfl, rfl, trivial⟩ rfl hA (show [1000, 1001, 1002].Nodup by decide) hB rfl⟩
/-- what through has made, as what is held when it has ended -/
theorem thru_held {X : Ctx} {E : Env} {a : Act} {w : World} {st : SState} {c : MCurve} {A0 A1 : Option Addr} {c0 c1 fe fd : Nat} (S : St X st E a w) (hC : X.C = noC) (hs : X.sl0 = (envOf [(0, ⟨A0, c.liquid.length, c0, 1⟩), (1, ⟨A1, c.vapour.length, c1, 2⟩)]).sl) (g0 g1 g2 : Nat) (hg : g0 ≠ g1 ∧ g0 ≠ g2 ∧ g1 ≠ g2)
    (k0 : look st.m.blks g0 = some (.blk 25 [.sl 0, .sl 1])) (k1 : look st.m.blks g1 = some (.blk 105 [.v (.func (.func fe) #[] #[])])) (k2 : look st.m.blks g2 = some (.blk 98 [.v (.func (.func fd) #[] #[])]))
    (h0 : c.liquid.length ≤ c0) (s0 : SlAt X.w0 A0 c.liquid.length 1 fun i => [.int .i64 (c.liquid.getD i default)]) (h1 : c.vapour.length ≤ c1) (s1 : SlAt X.w0 A1 c.vapour.length 2 fun i => [.int .i64 (c.vapour.getD i default).lo, .int .i64 (c.vapour.getD i default).hi]) (r0 : InR X.R A0 c.liquid.length) (r1 : InR X.R A1 c.vapour.length) :
    HeldIn (fun k => X.w0.heap.size ≤ k ∨ X.R k) w (Thru c fe fd (.pointer (some ⟨E.ρ g0, 0, none⟩)) (.pointer (some ⟨E.ρ g1, 0, none⟩)) (.pointer (some ⟨E.ρ g2, 0, none⟩))) := by
  have hb := S.below hC
  have e0 : E.sl 0 = ⟨A0, c.liquid.length, c0, 1⟩ := (S.pin.2.1 0 (by decide)).trans (by rw [hs]; rfl)
  have e1 : E.sl 1 = ⟨A1, c.vapour.length, c1, 2⟩ := (S.pin.2.1 1 (by decide)).trans (by rw [hs]; rfl)
  have B0 := (S.own_blk k0 hC).mono (R' := fun k => X.w0.heap.size ≤ k ∨ X.R k) fun _ _ h => .inl h
  have B1 := (S.own_blk k1 hC).mono (R' := fun k => X.w0.heap.size ≤ k ∨ X.R k) fun _ _ h => .inl h
  have B2 := (S.own_blk k2 hC).mono (R' := fun k => X.w0.heap.size ≤ k ∨ X.R k) fun _ _ h => .inl h
  have L0 := HeldIn.sl (s0.later hb) (fun b off hl hA => .inr (r0 b off hl hA) : InR (fun k => X.w0.heap.size ≤ k ∨ X.R k) A0 c.liquid.length)
  have L1 := HeldIn.sl (s1.later hb) (fun b off hl hA => .inr (r1 b off hl hA) : InR (fun k => X.w0.heap.size ≤ k ∨ X.R k) A1 c.vapour.length)
  simp only [SV.vals, SV.val, e0, e1] at B0 B1 B2
  have far : ∀ {A : Option Addr} {len n : Nat} {get : Nat → List Value}, SlAt X.w0 A len n get → InR (fun b => b ≠ E.ρ g0 ∧ b ≠ E.ρ g1 ∧ b ≠ E.ρ g2 ∧ True) A len := fun hs b off hl hA => by
    obtain ⟨b', off', hA', hlt, _⟩ := hs hl
    rw [hA] at hA'
    have e : b = b' := by simpa using congrArg (fun o => (o.map Addr.block).getD 0) hA'
    have nb : ∀ g t cs, look st.m.blks g = some (.blk t cs) → b ≠ E.ρ g := fun g t cs hx e' => by
      rcases S.sep.base g t cs hx with h | h
      · omega
      · rw [hC] at h; exact h
    exact ⟨nb _ _ _ k0, nb _ _ _ k1, nb _ _ _ k2, trivial⟩
  refine (B0.and (B1.and (B2.and (L0.and L1)))).imp fun w hw => ⟨_, _, _, A0, c0, A1, c1, rfl, rfl, rfl, fun e => hg.1 (S.sep.inj _ _ _ _ _ _ k0 k1 e), fun e => hg.2.1 (S.sep.inj _ _ _ _ _ _ k0 k2 e), fun e => hg.2.2 (S.sep.inj _ _ _ _ _ _ k1 k2 e), hw.1, hw.2.1, hw.2.2.1, h0, hw.2.2.2.1, h1, hw.2.2.2.2, far s0, far s1⟩
set_option maxRecDepth 100000 in
set_option maxHeartbeats 4000000 in
theorem throughLow_ok (c : MCurve) (W : World) (R : Nat → Prop) (A0 : Option Addr) (c0 : Nat) (h0 : c.liquid.length ≤ c0) (s0 : SlAt W A0 c.liquid.length 1 fun i => [.int .i64 (c.liquid.getD i default)]) (r0 : InR R A0 c.liquid.length) (A1 : Option Addr) (c1 : Nat) (h1 : c.vapour.length ≤ c1) (s1 : SlAt W A1 c.vapour.length 2 fun i => [.int .i64 (c.vapour.getD i default).lo, .int .i64 (c.vapour.getD i default).hi]) (r1 : InR R A1 c.vapour.length) :
    Calls Go.Proofs.Try.prog 66 #[.agg #[.slice A0 c.liquid.length c0, .slice A1 c.vapour.length c1], .func (.func 67) #[] #[], .func (.func 68) #[] #[]] W fun e w' => ∃ v : Nat → Value, e = .returned (.func (.func 74) #[] #[v 0, v 1, v 2]) ∧ Below W.heap.size W w' ∧ (∀ i, (v i).oneCell' = true) ∧ HeldIn (fun k => W.heap.size ≤ k ∨ R k) w' (Thru c 67 68 (v 0) (v 1) (v 2)) := by
  have h : (some () : Option Unit) = some () := rfl
  refine sym_call (f := 66) (fn := Go.Proofs.Try.f66) (c := Go.Proofs.Try.f66.body.get rfl) Go.Proofs.Try.func66 rfl [.agg [.sl 0, .sl 1], .v (.func (.func 67) #[] #[]), .v (.func (.func 68) #[] #[])] (still_R c) [] (envOf [(0, ⟨A0, c.liquid.length, c0, 1⟩), (1, ⟨A1, c.vapour.length, c1, 2⟩)]) R (fun _ _ => rfl) (by kernel_rfl) (envOf_one trivial) ⟨s0.rd h0, s1.rd h1, trivial⟩ ⟨r0, r1, trivial⟩ trivial fun E a w S => ?_
  refine sym_seq lay_ok mixed [(0, { g := 0 }), (1, { g := 1 }), (2, { g := 2 })] [3, 4, 5] [0, 1, 2] (⟨[(3, .own 0 0), (4, .own 1 0), (5, .own 2 0)], ⟨[(0, .blk 25 [.sl 0, .sl 1]), (1, .blk 105 [.v (.func (.func 67) #[] #[])]), (2, .blk 98 [.v (.func (.func 68) #[] #[])])], (still_R c), []⟩⟩) [] S (by kernel_rfl) (by kernel_rfl) (by kernel_rfl) trivial ?_
  clear S; intro E a w S
  refine sym_seq lay_ok mixed [] [6] [0, 1, 2] (⟨[(6, .fn 74 [.own 0 0, .own 1 0, .own 2 0])], ⟨[(0, .blk 25 [.sl 0, .sl 1]), (1, .blk 105 [.v (.func (.func 67) #[] #[])]), (2, .blk 98 [.v (.func (.func 68) #[] #[])])], (still_R c), []⟩⟩) [] S (by kernel_rfl) (by kernel_rfl) (by kernel_rfl) trivial ?_
  clear S; intro E a w S
  refine wp_ret ?_
  have h := Option.some.inj h
  clear h
  exact sym_ret lay_ok [.fn 74 [.own 0 0, .own 1 0, .own 2 0]] (by kernel_rfl) rfl S ⟨vfun [.pointer (some ⟨E.ρ 0, 0, none⟩), .pointer (some ⟨E.ρ 1, 0, none⟩), .pointer (some ⟨E.ρ 2, 0, none⟩)], rfl, S.below rfl, vfun_one _ ⟨rfl, rfl, rfl, trivial⟩, thru_held S rfl rfl 0 1 2 (by decide) rfl rfl rfl h0 s0 h1 s1 r0 r1⟩
set_option maxRecDepth 100000 in
set_option maxHeartbeats 4000000 in
theorem throughHigh_ok (c : MCurve) (W : World) (R : Nat → Prop) (A0 : Option Addr) (c0 : Nat) (h0 : c.liquid.length ≤ c0) (s0 : SlAt W A0 c.liquid.length 1 fun i => [.int .i64 (c.liquid.getD i default)]) (r0 : InR R A0 c.liquid.length) (A1 : Option Addr) (c1 : Nat) (h1 : c.vapour.length ≤ c1) (s1 : SlAt W A1 c.vapour.length 2 fun i => [.int .i64 (c.vapour.getD i default).lo, .int .i64 (c.vapour.getD i default).hi]) (r1 : InR R A1 c.vapour.length) :
    Calls Go.Proofs.Try.prog 66 #[.agg #[.slice A0 c.liquid.length c0, .slice A1 c.vapour.length c1], .func (.func 69) #[] #[], .func (.func 59) #[] #[]] W fun e w' => ∃ v : Nat → Value, e = .returned (.func (.func 74) #[] #[v 0, v 1, v 2]) ∧ Below W.heap.size W w' ∧ (∀ i, (v i).oneCell' = true) ∧ HeldIn (fun k => W.heap.size ≤ k ∨ R k) w' (Thru c 69 59 (v 0) (v 1) (v 2)) := by
  have h : (some () : Option Unit) = some () := rfl
  refine sym_call (f := 66) (fn := Go.Proofs.Try.f66) (c := Go.Proofs.Try.f66.body.get rfl) Go.Proofs.Try.func66 rfl [.agg [.sl 0, .sl 1], .v (.func (.func 69) #[] #[]), .v (.func (.func 59) #[] #[])] (still_R c) [] (envOf [(0, ⟨A0, c.liquid.length, c0, 1⟩), (1, ⟨A1, c.vapour.length, c1, 2⟩)]) R (fun _ _ => rfl) (by kernel_rfl) (envOf_one trivial) ⟨s0.rd h0, s1.rd h1, trivial⟩ ⟨r0, r1, trivial⟩ trivial fun E a w S => ?_
  refine sym_seq lay_ok mixed [(0, { g := 0 }), (1, { g := 1 }), (2, { g := 2 })] [3, 4, 5] [0, 1, 2] (⟨[(3, .own 0 0), (4, .own 1 0), (5, .own 2 0)], ⟨[(0, .blk 25 [.sl 0, .sl 1]), (1, .blk 105 [.v (.func (.func 69) #[] #[])]), (2, .blk 98 [.v (.func (.func 59) #[] #[])])], (still_R c), []⟩⟩) [] S (by kernel_rfl) (by kernel_rfl) (by kernel_rfl) trivial ?_
  clear S; intro E a w S
  refine sym_seq lay_ok mixed [] [6] [0, 1, 2] (⟨[(6, .fn 74 [.own 0 0, .own 1 0, .own 2 0])], ⟨[(0, .blk 25 [.sl 0, .sl 1]), (1, .blk 105 [.v (.func (.func 69) #[] #[])]), (2, .blk 98 [.v (.func (.func 59) #[] #[])])], (still_R c), []⟩⟩) [] S (by kernel_rfl) (by kernel_rfl) (by kernel_rfl) trivial ?_
  clear S; intro E a w S
  refine wp_ret ?_
  have h := Option.some.inj h
  clear h
  exact sym_ret lay_ok [.fn 74 [.own 0 0, .own 1 0, .own 2 0]] (by kernel_rfl) rfl S ⟨vfun [.pointer (some ⟨E.ρ 0, 0, none⟩), .pointer (some ⟨E.ρ 1, 0, none⟩), .pointer (some ⟨E.ρ 2, 0, none⟩)], rfl, S.below rfl, vfun_one _ ⟨rfl, rfl, rfl, trivial⟩, thru_held S rfl rfl 0 1 2 (by decide) rfl rfl rfl h0 s0 h1 s1 r0 r1⟩
set_option maxRecDepth 100000 in
set_option maxHeartbeats 4000000 in
theorem linesOf_ok (c : MCurve) (W : World) (R : Nat → Prop) (A0 : Option Addr) (c0 : Nat) (h0 : c.liquid.length ≤ c0) (s0 : SlAt W A0 c.liquid.length 1 fun i => [.int .i64 (c.liquid.getD i default)]) (r0 : InR R A0 c.liquid.length) (A1 : Option Addr) (c1 : Nat) (h1 : c.vapour.length ≤ c1) (s1 : SlAt W A1 c.vapour.length 2 fun i => [.int .i64 (c.vapour.getD i default).lo, .int .i64 (c.vapour.getD i default).hi]) (r1 : InR R A1 c.vapour.length) :
    Calls Go.Proofs.Try.prog 47 #[.agg #[.slice A0 c.liquid.length c0, .slice A1 c.vapour.length c1]] W fun e w' => ∃ v : Nat → Value, e = .returned (.agg #[.func (.func 74) #[] #[v 0, v 1, v 2], .func (.func 74) #[] #[v 3, v 4, v 5]]) ∧ Below W.heap.size W w' ∧ (∀ i, (v i).oneCell' = true) ∧ HeldIn (fun k => W.heap.size ≤ k ∨ R k) w' (Lines c v) := by
  have h : (some () : Option Unit) = some () := rfl
  refine sym_call (f := 47) (fn := Go.Proofs.Try.f47) (c := Go.Proofs.Try.f47.body.get rfl) Go.Proofs.Try.func47 rfl [.agg [.sl 0, .sl 1]] (still_R c) [] (envOf [(0, ⟨A0, c.liquid.length, c0, 1⟩), (1, ⟨A1, c.vapour.length, c1, 2⟩)]) R (fun _ _ => rfl) (by kernel_rfl) (envOf_one trivial) ⟨s0.rd h0, s1.rd h1, trivial⟩ ⟨r0, r1, trivial⟩ trivial fun E a w S => ?_
  refine sym_seq lay_ok mixed [(0, { g := 0 }), (1, { g := 1 })] [1, 2] [0, 1] (⟨[(1, .own 0 0), (2, .own 1 0)], ⟨[(0, .blk 25 [.sl 0, .sl 1]), (1, .blk 81 [.v (.nilFunc), .v (.nilFunc)])], (still_R c), []⟩⟩) [] S (by kernel_rfl) (by kernel_rfl) (by kernel_rfl) trivial ?_
  clear S; intro E a w S
  refine sym_seq lay_ok mixed [(1, { g := 2, res := .fn 74 [.ltr 2 0, .ltr 2 1, .ltr 2 2], hx := some (fun v => Thru c 67 68 (v 0) (v 1) (v 2)) }), (3, { g := 3, res := .fn 74 [.ltr 3 0, .ltr 3 1, .ltr 3 2], hx := some (fun v => Thru c 69 59 (v 0) (v 1) (v 2)) })] [2] [1, 2, 3] (⟨[(2, .own 1 0)], ⟨[(1, .blk 81 [.fn 74 [.ltr 2 0, .ltr 2 1, .ltr 2 2], .fn 74 [.ltr 3 0, .ltr 3 1, .ltr 3 2]]), (2, .held (fun v => Thru c 67 68 (v 0) (v 1) (v 2))), (3, .held (fun v => Thru c 69 59 (v 0) (v 1) (v 2)))], (still_R c), []⟩⟩) [.callx ⟨[], (still_R c), []⟩ 2 66 [.agg [.sl 0, .sl 1], .v (.func (.func 67) #[] #[]), .v (.func (.func 68) #[] #[])] (.fn 74 [.ltr 2 0, .ltr 2 1, .ltr 2 2]) (fun v => Thru c 67 68 (v 0) (v 1) (v 2)), .callx ⟨[], (still_R c), []⟩ 3 66 [.agg [.sl 0, .sl 1], .v (.func (.func 69) #[] #[]), .v (.func (.func 59) #[] #[])] (.fn 74 [.ltr 3 0, .ltr 3 1, .ltr 3 2]) (fun v => Thru c 69 59 (v 0) (v 1) (v 2))] S (by kernel_rfl) (by kernel_rfl) (by kernel_rfl) ⟨⟨enters_66, fun E W R hm => by obtain ⟨A0, c0, q0, l0, s0, r0⟩ := Mem.sl hm (s := 0) rfl; obtain ⟨A1, c1, q1, l1, s1, r1⟩ := Mem.sl hm (s := 1) rfl; simp only [SV.vals, SV.val, q0, q1, Env.updX_same]; exact throughLow_ok c W R A0 c0 l0 s0 r0 A1 c1 l1 s1 r1⟩, ⟨enters_66, fun E W R hm => by obtain ⟨A0, c0, q0, l0, s0, r0⟩ := Mem.sl hm (s := 0) rfl; obtain ⟨A1, c1, q1, l1, s1, r1⟩ := Mem.sl hm (s := 1) rfl; simp only [SV.vals, SV.val, q0, q1, Env.updX_same]; exact throughHigh_ok c W R A0 c0 l0 s0 r0 A1 c1 l1 s1 r1⟩, trivial⟩ ?_
  clear S; intro E a w S
  refine wp_ret ?_
  have h := Option.some.inj h
  clear h
  exact sym_ret lay_ok [.agg [.fn 74 [.ltr 2 0, .ltr 2 1, .ltr 2 2], .fn 74 [.ltr 3 0, .ltr 3 1, .ltr 3 2]]] (by kernel_rfl) rfl S ⟨vfun [E.x 2 0, E.x 2 1, E.x 2 2, E.x 3 0, E.x 3 1, E.x 3 2], rfl, S.below rfl, vfun_one _ ⟨S.mem.one 2 0, S.mem.one 2 1, S.mem.one 2 2, S.mem.one 3 0, S.mem.one 3 1, S.mem.one 3 2, trivial⟩, (S.letters (g := 2) rfl).and (S.letters (g := 3) rfl)⟩
def still_lines_vapour (fuel : Nat) (c : MCurve) (s : MSpan) : Option MSpan :=
(thruLow fuel c s.lo).bind fun (r1 : Int) =>
(thruHigh fuel c s.hi).bind fun (r2 : Int) =>
some (MSpan.mk r1 r2)
set_option maxRecDepth 100000 in
set_option maxHeartbeats 4000000 in
theorem still_lines_vapour_ok (fuel : Nat) (c : MCurve) (s : MSpan) (W : World) (v : Nat → Value) (hv : ∀ i, (v i).oneCell' = true) (hL : HeldIn allR W (Lines c v)) (res : MSpan) (h : still_lines_vapour fuel c s = some res) :
    Calls Go.Proofs.Try.prog 48 #[.agg #[.func (.func 74) #[] #[v 0, v 1, v 2], .func (.func 74) #[] #[v 3, v 4, v 5]], .agg #[.int .i64 s.lo, .int .i64 s.hi]] W fun e w' => e = .returned (.agg #[.int .i64 res.lo, .int .i64 res.hi]) ∧ Below W.heap.size W w' := by
  refine sym_call (f := 48) (fn := Go.Proofs.Try.f48) (c := Go.Proofs.Try.f48.body.get rfl) Go.Proofs.Try.func48 rfl [.agg [.fn 74 [.ltr 1500 0, .ltr 1500 1, .ltr 1500 2], .fn 74 [.ltr 1500 3, .ltr 1500 4, .ltr 1500 5]], .agg [.v (.int .i64 s.lo), .v (.int .i64 s.hi)]] [] [(1500, .held (Lines c))] (envOf [] [(1500, v)]) allR (fun _ _ => rfl) (by kernel_rfl) (envOf_one ⟨hv, trivial⟩) trivial trivial ⟨hL, trivial⟩ fun E a w S => ?_
  rw [still_lines_vapour] at h
  refine sym_seq lay_ok mixed [(0, { g := 0 }), (1, { g := 1 }), (2, { g := 2 })] [2, 3, 4] [1500, 0, 1, 2] (⟨[(2, .own 0 0), (3, .own 1 0), (4, .own 2 0)], ⟨[(1500, .held (Lines c)), (0, .blk 81 [.fn 74 [.ltr 1500 0, .ltr 1500 1, .ltr 1500 2], .fn 74 [.ltr 1500 3, .ltr 1500 4, .ltr 1500 5]]), (1, .blk 75 [.v (.int .i64 s.lo), .v (.int .i64 s.hi)]), (2, .blk 75 [.v (.int .i64 0), .v (.int .i64 0)])], [], []⟩⟩) [] S (by kernel_rfl) (by kernel_rfl) (by kernel_rfl) trivial ?_
  clear S; intro E a w S
  obtain ⟨r1, e1, h⟩ := bind_some h
  obtain ⟨r2, e2, h⟩ := bind_some h
  refine sym_seq lay_ok mixed [(4, { fp := [1500], res := .v (.int .i64 r1) }), (9, { fp := [1500], res := .v (.int .i64 r2) })] [4] [1500, 2] (⟨[(4, .own 2 0)], ⟨[(1500, .held (Lines c)), (2, .blk 75 [.v (.int .i64 r1), .v (.int .i64 r2)])], [], []⟩⟩) [.call ⟨[(1500, .held (Lines c))], [], []⟩ 74 [.v (.int .i64 s.lo), .ltr 1500 0, .ltr 1500 1, .ltr 1500 2] (.v (.int .i64 r1)), .call ⟨[(1500, .held (Lines c))], [], []⟩ 74 [.v (.int .i64 s.hi), .ltr 1500 3, .ltr 1500 4, .ltr 1500 5] (.v (.int .i64 r2))] S (by kernel_rfl) (by kernel_rfl) (by kernel_rfl) ⟨⟨enters_74, fun E W _ hm => thruLow_ok fuel c s.lo _ _ _ W (hm.held 1500 _ rfl).out.1 r1 e1⟩, ⟨enters_74, fun E W _ hm => thruHigh_ok fuel c s.hi _ _ _ W (hm.held 1500 _ rfl).out.2 r2 e2⟩, trivial⟩ ?_
  clear S; intro E a w S
  refine wp_ret ?_
  have h := Option.some.inj h
  subst h
  exact sym_ret lay_ok [.agg [.v (.int .i64 r1), .v (.int .i64 r2)]] (by kernel_rfl) rfl S ⟨rfl, S.below rfl⟩
def platesLow_k1  (x1 : Unit) : Option Int :=
some (-1)
def platesLow_l1 (fuel : Nat) (c : MCurve) (to0 : Int) : Nat → (Int × Int) → Option (Lp Unit Int)
  | 0, _ => none
  | n + 1, b1 =>
    (bif decide (b1.2 < 101) then
    ((bif decide (to0 ≤ b1.1) then
    (some (Lp.ret b1.2))
    else
    ((thruLow fuel c b1.1).bind fun (r1 : Int) =>
    grd (InI64 (b1.2 + 1)) <|
    platesLow_l1 fuel c to0 n (r1, (b1.2 + 1)))))
    else
    (some (Lp.done ())))
def platesLow (fuel : Nat) (c : MCurve) (from0 to0 : Int) : Option Int :=
(platesLow_l1 fuel c to0 fuel (from0, 0)).bind fun lr1 => lr1.go fun x1 => platesLow_k1 x1
set_option maxRecDepth 100000 in
set_option maxHeartbeats 4000000 in
theorem platesLow_ok (fuel : Nat) (c : MCurve) (from0 to0 : Int) (W : World) (v : Nat → Value) (hv : ∀ i, (v i).oneCell' = true) (hL : HeldIn allR W (Thru c 67 68 (v 0) (v 1) (v 2))) (res : Int) (h : platesLow fuel c from0 to0 = some res) :
    Calls Go.Proofs.Try.prog 63 #[.func (.func 74) #[] #[v 0, v 1, v 2], .int .i64 from0, .int .i64 to0] W fun e w' => e = .returned (.int .i64 res) ∧ Below W.heap.size W w' := by
  refine sym_call (f := 63) (fn := Go.Proofs.Try.f63) (c := Go.Proofs.Try.f63.body.get rfl) Go.Proofs.Try.func63 rfl [.fn 74 [.ltr 1500 0, .ltr 1500 1, .ltr 1500 2], .v (.int .i64 from0), .v (.int .i64 to0)] [] [(1500, .held (fun v => Thru c 67 68 (v 0) (v 1) (v 2)))] (envOf [] [(1500, v)]) allR (fun _ _ => rfl) (by kernel_rfl) (envOf_one ⟨hv, trivial⟩) trivial trivial ⟨hL, trivial⟩ fun E a w S => ?_
  rw [platesLow] at h
  refine sym_seq lay_ok mixed [] [0, 1, 2] [1500] (⟨[(0, .fn 74 [.ltr 1500 0, .ltr 1500 1, .ltr 1500 2]), (1, .v (.int .i64 from0)), (2, .v (.int .i64 to0))], ⟨[(1500, .held (fun v => Thru c 67 68 (v 0) (v 1) (v 2)))], [], []⟩⟩) [] S (by kernel_rfl) (by kernel_rfl) (by kernel_rfl) trivial ?_
  clear S; intro E a w S
  refine sym_seq lay_ok mixed [] [0, 2, 7] [1500] (⟨[(0, .fn 74 [.ltr 1500 0, .ltr 1500 1, .ltr 1500 2]), (2, .v (.int .i64 to0)), (7, .v (.int .i64 from0))], ⟨[(1500, .held (fun v => Thru c 67 68 (v 0) (v 1) (v 2)))], [], []⟩⟩) [] S (by kernel_rfl) (by kernel_rfl) (by kernel_rfl) trivial ?_
  clear S; intro E a w S
  refine wp_seq ?_
  refine sym_seq lay_ok mixed [] [0, 2, 7, 10] [1500] (⟨[(0, .fn 74 [.ltr 1500 0, .ltr 1500 1, .ltr 1500 2]), (2, .v (.int .i64 to0)), (7, .v (.int .i64 from0)), (10, .v (.int .i64 0))], ⟨[(1500, .held (fun v => Thru c 67 68 (v 0) (v 1) (v 2)))], [], []⟩⟩) [] S (by kernel_rfl) (by kernel_rfl) (by kernel_rfl) trivial ?_
  clear S; intro E a w S
  obtain ⟨lr1, e1, hp1⟩ := bind_some h
  clear h
  refine sym_block_last (G := fun a w => ∃ E, ∃ x1 : Unit, platesLow_k1 x1 = some res ∧ St ⟨W, noC, Go.Proofs.Try.f63.ntmps, [], allR, noρ, (envOf []).sl, (envOf [] [(1500, v)]).x⟩ (⟨[], ⟨[(1500, .held (fun v => Thru c 67 68 (v 0) (v 1) (v 2)))], [], []⟩⟩) E a w) ?_ ?_
  · refine wp_loop_rounds fuel ?_
    refine sym_rounds (F := fun n b1 => platesLow_l1 fuel c to0 n b1 = some lr1) (H := fun b1 => ⟨[(0, .fn 74 [.ltr 1500 0, .ltr 1500 1, .ltr 1500 2]), (2, .v (.int .i64 to0)), (7, .v (.int .i64 b1.1)), (10, .v (.int .i64 b1.2))], ⟨[(1500, .held (fun v => Thru c 67 68 (v 0) (v 1) (v 2)))], [], []⟩⟩) (from0, 0) (fun b hb => by have hb : none = some lr1 := hb; cases hb) ?_ _ _ _ _ e1 (St.cast (P := Go.Proofs.Try.prog) [] [] [0, 2, 7, 10] [1500] [] _ [] (by kernel_rfl) trivial S)
    clear e1 S
    intro n b1 E a w h ih S
    rw [platesLow_l1] at h
    refine sym_seq lay_ok mixed [] [0, 2, 7, 10, 11] [1500] (⟨[(0, .fn 74 [.ltr 1500 0, .ltr 1500 1, .ltr 1500 2]), (2, .v (.int .i64 to0)), (7, .v (.int .i64 b1.1)), (10, .v (.int .i64 b1.2)), (11, .v (.bool (decide (b1.2 < 101))))], ⟨[(1500, .held (fun v => Thru c 67 68 (v 0) (v 1) (v 2)))], [], []⟩⟩) [] S (by kernel_rfl) (by kernel_rfl) (by kernel_rfl) trivial ?_
    clear S; intro E a w S
    refine sym_if (b := decide (b1.2 < 101)) S rfl (fun hb1 => ?_) (fun hb1 => ?_)
    · have h := bif_t hb1 h
      refine wp_skip ?_
      refine out_then_normal ?_
      refine wp_seq ?_
      refine wp_block ?_
      refine sym_seq lay_ok mixed [] [0, 2, 7, 10, 8] [1500] (⟨[(0, .fn 74 [.ltr 1500 0, .ltr 1500 1, .ltr 1500 2]), (2, .v (.int .i64 to0)), (7, .v (.int .i64 b1.1)), (10, .v (.int .i64 b1.2)), (8, .v (.int .i64 b1.2))], ⟨[(1500, .held (fun v => Thru c 67 68 (v 0) (v 1) (v 2)))], [], []⟩⟩) [] S (by kernel_rfl) (by kernel_rfl) (by kernel_rfl) trivial ?_
      clear S; intro E a w S
      refine wp_seq ?_
      refine sym_seq lay_ok mixed [] [0, 2, 7, 10, 8, 15] [1500] (⟨[(0, .fn 74 [.ltr 1500 0, .ltr 1500 1, .ltr 1500 2]), (2, .v (.int .i64 to0)), (7, .v (.int .i64 b1.1)), (10, .v (.int .i64 b1.2)), (8, .v (.int .i64 b1.2)), (15, .v (.bool (decide (to0 ≤ b1.1))))], ⟨[(1500, .held (fun v => Thru c 67 68 (v 0) (v 1) (v 2)))], [], []⟩⟩) [] S (by kernel_rfl) (by kernel_rfl) (by kernel_rfl) trivial ?_
      clear S; intro E a w S
      refine sym_if_last (b := decide (to0 ≤ b1.1)) S rfl (fun hb2 => ?_) (fun hb2 => ?_)
      · have h := bif_t hb2 h
        refine sym_seq lay_ok mixed [] [6] [1500] (⟨[(6, .v (.int .i64 b1.2))], ⟨[(1500, .held (fun v => Thru c 67 68 (v 0) (v 1) (v 2)))], [], []⟩⟩) [] S (by kernel_rfl) (by kernel_rfl) (by kernel_rfl) trivial ?_
        clear S; intro E a w S
        refine wp_ret ?_
        refine out_then_ret ?_
        refine out_block_ret ?_
        refine out_then_ret ?_
        refine out_then_ret ?_
        refine out_block_ret ?_
        refine out_then_ret ?_
        refine out_then_ret ?_
        have hr := Option.some.inj h
        subst hr
        have hr := Option.some.inj hp1
        subst hr
        exact sym_ret lay_ok [.v (.int .i64 b1.2)] (by kernel_rfl) rfl S ⟨rfl, S.below rfl⟩
      · have h := bif_f hb2 h
        refine wp_skip ?_
        refine out_then_normal ?_
        obtain ⟨r1, e2, h⟩ := bind_some h
        refine sym_last lay_ok mixed [(2, { fp := [1500], res := .v (.int .i64 r1) })] [0, 2, 7, 10] [1500] (⟨[(0, .fn 74 [.ltr 1500 0, .ltr 1500 1, .ltr 1500 2]), (2, .v (.int .i64 to0)), (7, .v (.int .i64 r1)), (10, .v (.int .i64 b1.2))], ⟨[(1500, .held (fun v => Thru c 67 68 (v 0) (v 1) (v 2)))], [], []⟩⟩) [.call ⟨[(1500, .held (fun v => Thru c 67 68 (v 0) (v 1) (v 2)))], [], []⟩ 74 [.v (.int .i64 b1.1), .ltr 1500 0, .ltr 1500 1, .ltr 1500 2] (.v (.int .i64 r1))] S (by kernel_rfl) (by kernel_rfl) (by kernel_rfl) ⟨⟨enters_74, fun E W _ hm => thruLow_ok fuel c b1.1 _ _ _ W (hm.held 1500 _ rfl).out r1 e2⟩, trivial⟩ ?_
        clear S; intro E a w S
        refine out_block_normal ?_
        refine out_then_normal ?_
        obtain ⟨g1, h⟩ := grd_some h
        refine sym_last lay_ok mixed [] [0, 2, 7, 10] [1500] (⟨[(0, .fn 74 [.ltr 1500 0, .ltr 1500 1, .ltr 1500 2]), (2, .v (.int .i64 to0)), (7, .v (.int .i64 r1)), (10, .v (.int .i64 (b1.2 + 1)))], ⟨[(1500, .held (fun v => Thru c 67 68 (v 0) (v 1) (v 2)))], [], []⟩⟩) [.rng .i64 (b1.2 + 1)] S (by kernel_rfl) (by kernel_rfl) (by kernel_rfl) ⟨rngI64 g1, trivial⟩ ?_
        clear S; intro E a w S
        refine out_then_normal ?_
        exact ih (r1, (b1.2 + 1)) _ _ _ h (St.cast (P := Go.Proofs.Try.prog) [] [] [0, 2, 7, 10] [1500] [] _ [] (by kernel_rfl) trivial S)
    · have h := bif_f hb1 h
      refine wp_exit ?_
      refine out_then_exit ?_
      refine out_then_exit ?_
      refine out_block_here ?_
      refine out_then_normal ?_
      have hr := Option.some.inj h
      subst hr
      exact ⟨_, (), hp1, St.cast (P := Go.Proofs.Try.prog) [] [] [] [1500] [] _ [] (by kernel_rfl) trivial S⟩
  clear e1 S
  rintro a w ⟨E, x1, h, S⟩
  rw [platesLow_k1] at h
  refine out_then_normal ?_
  refine sym_seq lay_ok mixed [] [6] [1500] (⟨[(6, .v (.int .i64 (-1)))], ⟨[(1500, .held (fun v => Thru c 67 68 (v 0) (v 1) (v 2)))], [], []⟩⟩) [] S (by kernel_rfl) (by kernel_rfl) (by kernel_rfl) trivial ?_
  clear S; intro E a w S
  refine wp_ret ?_
  have h := Option.some.inj h
  subst h
  exact sym_ret lay_ok [.v (.int .i64 (-1))] (by kernel_rfl) rfl S ⟨rfl, S.below rfl⟩
def platesHigh_k1  (x1 : Unit) : Option Int :=
some (-1)
def platesHigh_l1 (fuel : Nat) (c : MCurve) (to0 : Int) : Nat → (Int × Int) → Option (Lp Unit Int)
  | 0, _ => none
  | n + 1, b1 =>
    (bif decide (b1.2 < 101) then
    ((bif decide (to0 ≤ b1.1) then
    (some (Lp.ret b1.2))
    else
    ((thruHigh fuel c b1.1).bind fun (r1 : Int) =>
    grd (InI64 (b1.2 + 1)) <|
    platesHigh_l1 fuel c to0 n (r1, (b1.2 + 1)))))
    else
    (some (Lp.done ())))
def platesHigh (fuel : Nat) (c : MCurve) (from0 to0 : Int) : Option Int :=
(platesHigh_l1 fuel c to0 fuel (from0, 0)).bind fun lr1 => lr1.go fun x1 => platesHigh_k1 x1
set_option maxRecDepth 100000 in
set_option maxHeartbeats 4000000 in
theorem platesHigh_ok (fuel : Nat) (c : MCurve) (from0 to0 : Int) (W : World) (v : Nat → Value) (hv : ∀ i, (v i).oneCell' = true) (hL : HeldIn allR W (Thru c 69 59 (v 0) (v 1) (v 2))) (res : Int) (h : platesHigh fuel c from0 to0 = some res) :
    Calls Go.Proofs.Try.prog 63 #[.func (.func 74) #[] #[v 0, v 1, v 2], .int .i64 from0, .int .i64 to0] W fun e w' => e = .returned (.int .i64 res) ∧ Below W.heap.size W w' := by
  refine sym_call (f := 63) (fn := Go.Proofs.Try.f63) (c := Go.Proofs.Try.f63.body.get rfl) Go.Proofs.Try.func63 rfl [.fn 74 [.ltr 1500 0, .ltr 1500 1, .ltr 1500 2], .v (.int .i64 from0), .v (.int .i64 to0)] [] [(1500, .held (fun v => Thru c 69 59 (v 0) (v 1) (v 2)))] (envOf [] [(1500, v)]) allR (fun _ _ => rfl) (by kernel_rfl) (envOf_one ⟨hv, trivial⟩) trivial trivial ⟨hL, trivial⟩ fun E a w S => ?_
  rw [platesHigh] at h
  refine sym_seq lay_ok mixed [] [0, 1, 2] [1500] (⟨[(0, .fn 74 [.ltr 1500 0, .ltr 1500 1, .ltr 1500 2]), (1, .v (.int .i64 from0)), (2, .v (.int .i64 to0))], ⟨[(1500, .held (fun v => Thru c 69 59 (v 0) (v 1) (v 2)))], [], []⟩⟩) [] S (by kernel_rfl) (by kernel_rfl) (by kernel_rfl) trivial ?_
  clear S; intro E a w S
  refine sym_seq lay_ok mixed [] [0, 2, 7] [1500] (⟨[(0, .fn 74 [.ltr 1500 0, .ltr 1500 1, .ltr 1500 2]), (2, .v (.int .i64 to0)), (7, .v (.int .i64 from0))], ⟨[(1500, .held (fun v => Thru c 69 59 (v 0) (v 1) (v 2)))], [], []⟩⟩) [] S (by kernel_rfl) (by kernel_rfl) (by kernel_rfl) trivial ?_
  clear S; intro E a w S
  refine wp_seq ?_
  refine sym_seq lay_ok mixed [] [0, 2, 7, 10] [1500] (⟨[(0, .fn 74 [.ltr 1500 0, .ltr 1500 1, .ltr 1500 2]), (2, .v (.int .i64 to0)), (7, .v (.int .i64 from0)), (10, .v (.int .i64 0))], ⟨[(1500, .held (fun v => Thru c 69 59 (v 0) (v 1) (v 2)))], [], []⟩⟩) [] S (by kernel_rfl) (by kernel_rfl) (by kernel_rfl) trivial ?_
  clear S; intro E a w S
  obtain ⟨lr1, e1, hp1⟩ := bind_some h
  clear h
  refine sym_block_last (G := fun a w => ∃ E, ∃ x1 : Unit, platesHigh_k1 x1 = some res ∧ St ⟨W, noC, Go.Proofs.Try.f63.ntmps, [], allR, noρ, (envOf []).sl, (envOf [] [(1500, v)]).x⟩ (⟨[], ⟨[(1500, .held (fun v => Thru c 69 59 (v 0) (v 1) (v 2)))], [], []⟩⟩) E a w) ?_ ?_
  · refine wp_loop_rounds fuel ?_
    refine sym_rounds (F := fun n b1 => platesHigh_l1 fuel c to0 n b1 = some lr1) (H := fun b1 => ⟨[(0, .fn 74 [.ltr 1500 0, .ltr 1500 1, .ltr 1500 2]), (2, .v (.int .i64 to0)), (7, .v (.int .i64 b1.1)), (10, .v (.int .i64 b1.2))], ⟨[(1500, .held (fun v => Thru c 69 59 (v 0) (v 1) (v 2)))], [], []⟩⟩) (from0, 0) (fun b hb => by have hb : none = some lr1 := hb; cases hb) ?_ _ _ _ _ e1 (St.cast (P := Go.Proofs.Try.prog) [] [] [0, 2, 7, 10] [1500] [] _ [] (by kernel_rfl) trivial S)
    clear e1 S
    intro n b1 E a w h ih S
    rw [platesHigh_l1] at h
    refine sym_seq lay_ok mixed [] [0, 2, 7, 10, 11] [1500] (⟨[(0, .fn 74 [.ltr 1500 0, .ltr 1500 1, .ltr 1500 2]), (2, .v (.int .i64 to0)), (7, .v (.int .i64 b1.1)), (10, .v (.int .i64 b1.2)), (11, .v (.bool (decide (b1.2 < 101))))], ⟨[(1500, .held (fun v => Thru c 69 59 (v 0) (v 1) (v 2)))], [], []⟩⟩) [] S (by kernel_rfl) (by kernel_rfl) (by kernel_rfl) trivial ?_
    clear S; intro E a w S
    refine sym_if (b := decide (b1.2 < 101)) S rfl (fun hb1 => ?_) (fun hb1 => ?_)
    · have h := bif_t hb1 h
      refine wp_skip ?_
      refine out_then_normal ?_
      refine wp_seq ?_
      refine wp_block ?_
      refine sym_seq lay_ok mixed [] [0, 2, 7, 10, 8] [1500] (⟨[(0, .fn 74 [.ltr 1500 0, .ltr 1500 1, .ltr 1500 2]), (2, .v (.int .i64 to0)), (7, .v (.int .i64 b1.1)), (10, .v (.int .i64 b1.2)), (8, .v (.int .i64 b1.2))], ⟨[(1500, .held (fun v => Thru c 69 59 (v 0) (v 1) (v 2)))], [], []⟩⟩) [] S (by kernel_rfl) (by kernel_rfl) (by kernel_rfl) trivial ?_
      clear S; intro E a w S
      refine wp_seq ?_
      refine sym_seq lay_ok mixed [] [0, 2, 7, 10, 8, 15] [1500] (⟨[(0, .fn 74 [.ltr 1500 0, .ltr 1500 1, .ltr 1500 2]), (2, .v (.int .i64 to0)), (7, .v (.int .i64 b1.1)), (10, .v (.int .i64 b1.2)), (8, .v (.int .i64 b1.2)), (15, .v (.bool (decide (to0 ≤ b1.1))))], ⟨[(1500, .held (fun v => Thru c 69 59 (v 0) (v 1) (v 2)))], [], []⟩⟩) [] S (by kernel_rfl) (by kernel_rfl) (by kernel_rfl) trivial ?_
      clear S; intro E a w S
      refine sym_if_last (b := decide (to0 ≤ b1.1)) S rfl (fun hb2 => ?_) (fun hb2 => ?_)
      · have h := bif_t hb2 h
        refine sym_seq lay_ok mixed [] [6] [1500] (⟨[(6, .v (.int .i64 b1.2))], ⟨[(1500, .held (fun v => Thru c 69 59 (v 0) (v 1) (v 2)))], [], []⟩⟩) [] S (by kernel_rfl) (by kernel_rfl) (by kernel_rfl) trivial ?_
        clear S; intro E a w S
        refine wp_ret ?_
        refine out_then_ret ?_
        refine out_block_ret ?_
        refine out_then_ret ?_
        refine out_then_ret ?_
        refine out_block_ret ?_
        refine out_then_ret ?_
        refine out_then_ret ?_
        have hr := Option.some.inj h
        subst hr
        have hr := Option.some.inj hp1
        subst hr
        exact sym_ret lay_ok [.v (.int .i64 b1.2)] (by kernel_rfl) rfl S ⟨rfl, S.below rfl⟩
      · have h := bif_f hb2 h
        refine wp_skip ?_
        refine out_then_normal ?_
        obtain ⟨r1, e2, h⟩ := bind_some h
        refine sym_last lay_ok mixed [(2, { fp := [1500], res := .v (.int .i64 r1) })] [0, 2, 7, 10] [1500] (⟨[(0, .fn 74 [.ltr 1500 0, .ltr 1500 1, .ltr 1500 2]), (2, .v (.int .i64 to0)), (7, .v (.int .i64 r1)), (10, .v (.int .i64 b1.2))], ⟨[(1500, .held (fun v => Thru c 69 59 (v 0) (v 1) (v 2)))], [], []⟩⟩) [.call ⟨[(1500, .held (fun v => Thru c 69 59 (v 0) (v 1) (v 2)))], [], []⟩ 74 [.v (.int .i64 b1.1), .ltr 1500 0, .ltr 1500 1, .ltr 1500 2] (.v (.int .i64 r1))] S (by kernel_rfl) (by kernel_rfl) (by kernel_rfl) ⟨⟨enters_74, fun E W _ hm => thruHigh_ok fuel c b1.1 _ _ _ W (hm.held 1500 _ rfl).out r1 e2⟩, trivial⟩ ?_
        clear S; intro E a w S
        refine out_block_normal ?_
        refine out_then_normal ?_
        obtain ⟨g1, h⟩ := grd_some h
        refine sym_last lay_ok mixed [] [0, 2, 7, 10] [1500] (⟨[(0, .fn 74 [.ltr 1500 0, .ltr 1500 1, .ltr 1500 2]), (2, .v (.int .i64 to0)), (7, .v (.int .i64 r1)), (10, .v (.int .i64 (b1.2 + 1)))], ⟨[(1500, .held (fun v => Thru c 69 59 (v 0) (v 1) (v 2)))], [], []⟩⟩) [.rng .i64 (b1.2 + 1)] S (by kernel_rfl) (by kernel_rfl) (by kernel_rfl) ⟨rngI64 g1, trivial⟩ ?_
        clear S; intro E a w S
        refine out_then_normal ?_
        exact ih (r1, (b1.2 + 1)) _ _ _ h (St.cast (P := Go.Proofs.Try.prog) [] [] [0, 2, 7, 10] [1500] [] _ [] (by kernel_rfl) trivial S)
    · have h := bif_f hb1 h
      refine wp_exit ?_
      refine out_then_exit ?_
      refine out_then_exit ?_
      refine out_block_here ?_
      refine out_then_normal ?_
      have hr := Option.some.inj h
      subst hr
      exact ⟨_, (), hp1, St.cast (P := Go.Proofs.Try.prog) [] [] [] [1500] [] _ [] (by kernel_rfl) trivial S⟩
  clear e1 S
  rintro a w ⟨E, x1, h, S⟩
  rw [platesHigh_k1] at h
  refine out_then_normal ?_
  refine sym_seq lay_ok mixed [] [6] [1500] (⟨[(6, .v (.int .i64 (-1)))], ⟨[(1500, .held (fun v => Thru c 69 59 (v 0) (v 1) (v 2)))], [], []⟩⟩) [] S (by kernel_rfl) (by kernel_rfl) (by kernel_rfl) trivial ?_
  clear S; intro E a w S
  refine wp_ret ?_
  have h := Option.some.inj h
  subst h
  exact sym_ret lay_ok [.v (.int .i64 (-1))] (by kernel_rfl) rfl S ⟨rfl, S.below rfl⟩
def still_strength (alcohol : MSpan) (amount : Int) : Option MSpan :=
(bif (amount == 0) then
(some (MSpan.mk 0 0))
else
(grd (InI64 (alcohol.lo * 10000)) <|
(still_down (alcohol.lo * 10000) amount).bind fun (r1 : Int) =>
grd (InI64 (alcohol.hi * 10000)) <|
(still_up (alcohol.hi * 10000) amount).bind fun (r2 : Int) =>
some (MSpan.mk r1 r2)))
set_option maxRecDepth 100000 in
set_option maxHeartbeats 4000000 in
theorem still_strength_ok (alcohol : MSpan) (amount : Int) (W : World)  (res : MSpan) (h : still_strength alcohol amount = some res) :
    Calls Go.Proofs.Try.prog 56 #[.agg #[.int .i64 alcohol.lo, .int .i64 alcohol.hi], .int .i64 amount] W fun e w' => e = .returned (.agg #[.int .i64 res.lo, .int .i64 res.hi]) ∧ Below W.heap.size W w' := by
  refine sym_call (f := 56) (fn := Go.Proofs.Try.f56) (c := Go.Proofs.Try.f56.body.get rfl) Go.Proofs.Try.func56 rfl [.agg [.v (.int .i64 alcohol.lo), .v (.int .i64 alcohol.hi)], .v (.int .i64 amount)] [] [] (envOf []) allR (fun _ _ => rfl) (by kernel_rfl) (envOf_one trivial) trivial (AllRR.all _ _) trivial fun E a w S => ?_
  rw [still_strength] at h
  refine sym_seq lay_ok mixed [(0, { g := 0 }), (1, { g := 1 })] [1, 2, 4] [0, 1] (⟨[(1, .v (.int .i64 amount)), (2, .own 0 0), (4, .own 1 0)], ⟨[(0, .blk 27 [.v (.int .i64 alcohol.lo), .v (.int .i64 alcohol.hi)]), (1, .blk 75 [.v (.int .i64 0), .v (.int .i64 0)])], [], []⟩⟩) [] S (by kernel_rfl) (by kernel_rfl) (by kernel_rfl) trivial ?_
  clear S; intro E a w S
  refine wp_seq ?_
  refine sym_seq lay_ok mixed [] [1, 2, 4, 6] [0, 1] (⟨[(1, .v (.int .i64 amount)), (2, .own 0 0), (4, .own 1 0), (6, .v (.bool (amount == 0)))], ⟨[(0, .blk 27 [.v (.int .i64 alcohol.lo), .v (.int .i64 alcohol.hi)]), (1, .blk 75 [.v (.int .i64 0), .v (.int .i64 0)])], [], []⟩⟩) [] S (by kernel_rfl) (by kernel_rfl) (by kernel_rfl) trivial ?_
  clear S; intro E a w S
  refine sym_if_last (b := (amount == 0)) S rfl (fun hb1 => ?_) (fun hb1 => ?_)
  · have h := bif_t hb1 h
    refine sym_seq lay_ok mixed [] [4] [1] (⟨[(4, .own 1 0)], ⟨[(1, .blk 75 [.v (.int .i64 0), .v (.int .i64 0)])], [], []⟩⟩) [] S (by kernel_rfl) (by kernel_rfl) (by kernel_rfl) trivial ?_
    clear S; intro E a w S
    refine wp_ret ?_
    refine out_then_ret ?_
    have h := Option.some.inj h
    subst h
    exact sym_ret lay_ok [.agg [.v (.int .i64 0), .v (.int .i64 0)]] (by kernel_rfl) rfl S ⟨rfl, S.below rfl⟩
  · have h := bif_f hb1 h
    refine wp_skip ?_
    refine out_then_normal ?_
    obtain ⟨g1, h⟩ := grd_some h
    obtain ⟨r1, e1, h⟩ := bind_some h
    obtain ⟨g2, h⟩ := grd_some h
    obtain ⟨r2, e2, h⟩ := bind_some h
    refine sym_seq lay_ok mixed [(4, { res := .v (.int .i64 r1) }), (9, { res := .v (.int .i64 r2) })] [4] [1] (⟨[(4, .own 1 0)], ⟨[(1, .blk 75 [.v (.int .i64 r1), .v (.int .i64 r2)])], [], []⟩⟩) [.rng .i64 (alcohol.lo * 10000), .call ⟨[], [], []⟩ 68 [.v (.int .i64 (alcohol.lo * 10000)), .v (.int .i64 amount)] (.v (.int .i64 r1)), .rng .i64 (alcohol.hi * 10000), .call ⟨[], [], []⟩ 59 [.v (.int .i64 (alcohol.hi * 10000)), .v (.int .i64 amount)] (.v (.int .i64 r2))] S (by kernel_rfl) (by kernel_rfl) (by kernel_rfl) ⟨rngI64 g1, ⟨enters_68, fun _ W _ _ => still_down_ok (alcohol.lo * 10000) amount W r1 e1⟩, rngI64 g2, ⟨enters_59, fun _ W _ _ => still_up_ok (alcohol.hi * 10000) amount W r2 e2⟩, trivial⟩ ?_
    clear S; intro E a w S
    refine wp_ret ?_
    have h := Option.some.inj h
    subst h
    exact sym_ret lay_ok [.agg [.v (.int .i64 r1), .v (.int .i64 r2)]] (by kernel_rfl) rfl S ⟨rfl, S.below rfl⟩
def still_pot_strength (p : MPot) : Option MSpan :=
(still_strength (MSpan.mk p.alcohol.lo p.alcohol.hi) p.volume).bind fun (r1 : MSpan) =>
some r1
set_option maxRecDepth 100000 in
set_option maxHeartbeats 4000000 in
theorem still_pot_strength_ok (p : MPot) (W : World)  (res : MSpan) (h : still_pot_strength p = some res) :
    Calls Go.Proofs.Try.prog 77 #[.agg #[.int .i64 p.volume, .int .i64 p.alcohol.lo, .int .i64 p.alcohol.hi]] W fun e w' => e = .returned (.agg #[.int .i64 res.lo, .int .i64 res.hi]) ∧ Below W.heap.size W w' := by
  refine sym_call (f := 77) (fn := Go.Proofs.Try.f77) (c := Go.Proofs.Try.f77.body.get rfl) Go.Proofs.Try.func77 rfl [.agg [.v (.int .i64 p.volume), .v (.int .i64 p.alcohol.lo), .v (.int .i64 p.alcohol.hi)]] [] [] (envOf []) allR (fun _ _ => rfl) (by kernel_rfl) (envOf_one trivial) trivial (AllRR.all _ _) trivial fun E a w S => ?_
  rw [still_pot_strength] at h
  refine sym_seq lay_ok mixed [(0, { g := 0 }), (1, { g := 1 })] [1, 2] [0, 1] (⟨[(1, .own 0 0), (2, .own 1 0)], ⟨[(0, .blk 90 [.v (.int .i64 p.volume), .v (.int .i64 p.alcohol.lo), .v (.int .i64 p.alcohol.hi)]), (1, .blk 75 [.v (.int .i64 0), .v (.int .i64 0)])], [], []⟩⟩) [] S (by kernel_rfl) (by kernel_rfl) (by kernel_rfl) trivial ?_
  clear S; intro E a w S
  obtain ⟨r1, e1, h⟩ := bind_some h
  refine sym_seq lay_ok mixed [(4, { res := .agg [.v (.int .i64 r1.lo), .v (.int .i64 r1.hi)] })] [2] [1] (⟨[(2, .own 1 0)], ⟨[(1, .blk 75 [.v (.int .i64 r1.lo), .v (.int .i64 r1.hi)])], [], []⟩⟩) [.call ⟨[], [], []⟩ 56 [.agg [.v (.int .i64 p.alcohol.lo), .v (.int .i64 p.alcohol.hi)], .v (.int .i64 p.volume)] (.agg [.v (.int .i64 r1.lo), .v (.int .i64 r1.hi)])] S (by kernel_rfl) (by kernel_rfl) (by kernel_rfl) ⟨⟨enters_56, fun _ W _ _ => still_strength_ok (MSpan.mk p.alcohol.lo p.alcohol.hi) p.volume W r1 e1⟩, trivial⟩ ?_
  clear S; intro E a w S
  refine wp_ret ?_
  have h := Option.some.inj h
  subst h
  exact sym_ret lay_ok [.agg [.v (.int .i64 r1.lo), .v (.int .i64 r1.hi)]] (by kernel_rfl) rfl S ⟨rfl, S.below rfl⟩
def drawOf (fuel : Nat) (c : MCurve) (p : MPot) (d : Int) : Option (Except Int (MDrawn × MPot)) :=
(bif (decide (d < 1) || decide (1073741824 < d)) then
(some (.error 2))
else
((bif decide (p.volume < d) then
(some (.error 10))
else
(grd (InI64 (p.volume - d)) <|
(still_pot_strength (MPot.mk p.volume (MSpan.mk p.alcohol.lo p.alcohol.hi))).bind fun (r1 : MSpan) =>
(still_lines_vapour fuel c r1).bind fun (r2 : MSpan) =>
grd (InI64 (d * r2.hi)) <|
(still_up (d * r2.hi) 10000).bind fun (r3 : Int) =>
grd (InI64 (p.alcohol.lo - (min r3 p.alcohol.hi))) <|
(still_strength (MSpan.mk (max (p.alcohol.lo - (min r3 p.alcohol.hi)) 0) 0) (p.volume - d)).bind fun (r4 : MSpan) =>
(thruLow fuel c (min r4.lo r1.lo)).bind fun (r5 : Int) =>
grd (InI64 (d * r5)) <|
(still_down (d * r5) 10000).bind fun (r6 : Int) =>
grd (InI64 (p.alcohol.lo - (p.volume - d))) <|
grd (InI64 (p.alcohol.hi - (max r6 (p.alcohol.lo - (p.volume - d)))) ∧ InI64 (p.alcohol.hi * (p.volume - d))) <|
(still_up (p.alcohol.hi * (p.volume - d)) p.volume).bind fun (r7 : Int) =>
some (.ok ((MDrawn.mk d (MSpan.mk (max r6 (p.alcohol.lo - (p.volume - d))) (min r3 p.alcohol.hi))), (MPot.mk (p.volume - d) (MSpan.mk (max (p.alcohol.lo - (min r3 p.alcohol.hi)) 0) (min (min (p.alcohol.hi - (max r6 (p.alcohol.lo - (p.volume - d)))) (p.volume - d)) r7)))))))))
abbrev runCells (p : MPot) (v : Nat → Value) : Array Value := #[.int .i64 p.volume, .int .i64 p.alcohol.lo, .int .i64 p.alcohol.hi, .func (.func 74) #[] #[v 0, v 1, v 2], .func (.func 74) #[] #[v 3, v 4, v 5]]
theorem drawn_kept {W : World} {b n : Nat} {cs : List SV} {sl0 : Nat → RS} {ρ0 : Nat → Nat} {x0 : Nat → Nat → Value} {E : Env} {a : Act} {w : World} {st : SState} (S : St ⟨W, inCB [⟨1000, b, 92, cs⟩], n, [], allR, ρ0, sl0, x0⟩ st E a w) : Kept (fun k => k = b) W w := S.kept.mono fun k _ h => by
  obtain ⟨x, hx, rfl⟩ := h
  rw [List.mem_singleton.1 hx]
theorem drawn_blk {X : Ctx} {E : Env} {a : Act} {w : World} {st : SState} {b t : Nat} {cs : List SV} {vs : List Value} (S : St X st E a w) (hb : look st.m.blks 1000 = some (.blk t cs)) (hρ : X.ρ0 1000 = b) (hv : SV.vals E cs = vs) : Blk w b t vs.toArray := by
  have := S.mem.blk 1000 t cs hb
  rw [S.pin.1 1000 (Nat.le_refl _), hρ, hv] at this
  exact this
set_option maxRecDepth 100000 in
set_option maxHeartbeats 4000000 in
theorem drawOf_ok (fuel : Nat) (c : MCurve) (p : MPot) (d : Int) (W : World) (b : Nat) (v : Nat → Value) (hv : ∀ i, (v i).oneCell' = true) (hL : HeldIn (fun k => k ≠ b ∧ True) W (Lines c v)) (hB : Blk W b 92 (runCells p v)) (res : Except Int (MDrawn × MPot)) (h : drawOf fuel c p d = some res) :
    Calls Go.Proofs.Try.prog 76 #[.pointer (some ⟨b, 0, none⟩), .int .i64 d] W fun e w' => Kept (fun k => k = b) W w' ∧ match res with
      | .ok r => e = .returned (.agg #[.int .i64 r.1.amount, .int .i64 r.1.alcohol.lo, .int .i64 r.1.alcohol.hi]) ∧ Blk w' b 92 (runCells r.2 v)
      | .error k => e = .panicked [{ v := .iface 32 (.int .i64 k), recovered := false }] ∧ Blk w' b 92 (runCells p v) := by
  refine sym_closure_h (f := 76) (fn := Go.Proofs.Try.f76) (c := Go.Proofs.Try.f76.body.get rfl) Go.Proofs.Try.func76 rfl [.own 1000 0, .v (.int .i64 d)] [] [] [(1500, v)] [⟨1000, b, 92, [.v (.int .i64 p.volume), .v (.int .i64 p.alcohol.lo), .v (.int .i64 p.alcohol.hi), .fn 74 [.ltr 1500 0, .ltr 1500 1, .ltr 1500 2], .fn 74 [.ltr 1500 3, .ltr 1500 4, .ltr 1500 5]]⟩] [(1500, .held (Lines c))] [(1000, .blk 92 [.v (.int .i64 p.volume), .v (.int .i64 p.alcohol.lo), .v (.int .i64 p.alcohol.hi), .fn 74 [.ltr 1500 0, .ltr 1500 1, .ltr 1500 2], .fn 74 [.ltr 1500 3, .ltr 1500 4, .ltr 1500 5]]), (1500, .held (Lines c))] rfl (by kernel_rfl) ⟨hv, trivial⟩ ⟨hB, trivial⟩ ⟨trivial, trivial⟩ trivial trivial ⟨hL, trivial⟩ fun E a w S => ?_
  rw [drawOf] at h
  refine sym_seq lay_ok mixed [(0, { g := 0 })] [0, 1, 4] [1000, 1500, 0] (⟨[(0, .own 1000 0), (1, .v (.int .i64 d)), (4, .own 0 0)], ⟨[(1000, .blk 92 [.v (.int .i64 p.volume), .v (.int .i64 p.alcohol.lo), .v (.int .i64 p.alcohol.hi), .fn 74 [.ltr 1500 0, .ltr 1500 1, .ltr 1500 2], .fn 74 [.ltr 1500 3, .ltr 1500 4, .ltr 1500 5]]), (1500, .held (Lines c)), (0, .blk 36 [.v (.int .i64 0), .v (.int .i64 0), .v (.int .i64 0)])], [], []⟩⟩) [] S (by kernel_rfl) (by kernel_rfl) (by kernel_rfl) trivial ?_
  clear S; intro E a w S
  refine wp_seq ?_
  refine sym_seq lay_ok mixed [(3, { og := true }), (4, { og := true }), (5, { pk := true })] [0, 1, 4, 17] [1000, 1500, 0] (⟨[(0, .own 1000 0), (1, .v (.int .i64 d)), (4, .own 0 0), (17, .v (.bool (decide (d < 1) || decide (1073741824 < d))))], ⟨[(1000, .blk 92 [.v (.int .i64 p.volume), .v (.int .i64 p.alcohol.lo), .v (.int .i64 p.alcohol.hi), .fn 74 [.ltr 1500 0, .ltr 1500 1, .ltr 1500 2], .fn 74 [.ltr 1500 3, .ltr 1500 4, .ltr 1500 5]]), (1500, .held (Lines c)), (0, .blk 36 [.v (.int .i64 0), .v (.int .i64 0), .v (.int .i64 0)])], [], []⟩⟩) [.imp (!(decide (d < 1))) (!(decide (d < 1))), .imp (!(decide (d < 1))) (!(decide (d < 1)))] S (by kernel_rfl) (by kernel_rfl) (by kernel_rfl) ⟨fun h => h, fun h => h, trivial⟩ ?_
  clear S; intro E a w S
  refine sym_if_last (b := (decide (d < 1) || decide (1073741824 < d))) S rfl (fun hb1 => ?_) (fun hb1 => ?_)
  · have h := bif_t hb1 h
    refine sym_die 32 18 .i64 2 (by kernel_rfl) (by kernel_rfl) (by kernel_rfl) S fun a1 ha => ?_
    refine out_then_panic ?_
    have h := Option.some.inj h
    subst h
    exact ⟨ha.trans S.defers, drawn_kept S, rfl, drawn_blk S rfl rfl (by simp only [SV.vals, SV.val, S.pin.2.2 1500 (by decide)]; rfl)⟩
  · have h := bif_f hb1 h
    refine wp_skip ?_
    refine out_then_normal ?_
    refine wp_seq ?_
    refine sym_seq lay_ok mixed [] [0, 1, 4, 25] [1000, 1500, 0] (⟨[(0, .own 1000 0), (1, .v (.int .i64 d)), (4, .own 0 0), (25, .v (.bool (decide (p.volume < d))))], ⟨[(1000, .blk 92 [.v (.int .i64 p.volume), .v (.int .i64 p.alcohol.lo), .v (.int .i64 p.alcohol.hi), .fn 74 [.ltr 1500 0, .ltr 1500 1, .ltr 1500 2], .fn 74 [.ltr 1500 3, .ltr 1500 4, .ltr 1500 5]]), (1500, .held (Lines c)), (0, .blk 36 [.v (.int .i64 0), .v (.int .i64 0), .v (.int .i64 0)])], [], []⟩⟩) [] S (by kernel_rfl) (by kernel_rfl) (by kernel_rfl) trivial ?_
    clear S; intro E a w S
    refine sym_if_last (b := decide (p.volume < d)) S rfl (fun hb2 => ?_) (fun hb2 => ?_)
    · have h := bif_t hb2 h
      refine sym_die 32 26 .i64 10 (by kernel_rfl) (by kernel_rfl) (by kernel_rfl) S fun a1 ha => ?_
      refine out_then_panic ?_
      have h := Option.some.inj h
      subst h
      exact ⟨ha.trans S.defers, drawn_kept S, rfl, drawn_blk S rfl rfl (by simp only [SV.vals, SV.val, S.pin.2.2 1500 (by decide)]; rfl)⟩
    · have h := bif_f hb2 h
      refine wp_skip ?_
      refine out_then_normal ?_
      obtain ⟨g1, h⟩ := grd_some h
      obtain ⟨r1, e1, h⟩ := bind_some h
      refine sym_seq lay_ok mixed [(11, { res := .agg [.v (.int .i64 r1.lo), .v (.int .i64 r1.hi)] }), (12, { g := 1 })] [0, 1, 4, 6, 5] [1000, 1500, 0, 1] (⟨[(0, .own 1000 0), (1, .v (.int .i64 d)), (4, .own 0 0), (6, .own 1 0), (5, .v (.int .i64 (p.volume - d)))], ⟨[(1000, .blk 92 [.v (.int .i64 p.volume), .v (.int .i64 p.alcohol.lo), .v (.int .i64 p.alcohol.hi), .fn 74 [.ltr 1500 0, .ltr 1500 1, .ltr 1500 2], .fn 74 [.ltr 1500 3, .ltr 1500 4, .ltr 1500 5]]), (1500, .held (Lines c)), (0, .blk 36 [.v (.int .i64 0), .v (.int .i64 0), .v (.int .i64 0)]), (1, .blk 75 [.v (.int .i64 r1.lo), .v (.int .i64 r1.hi)])], [], []⟩⟩) [.rng .i64 (p.volume - d), .call ⟨[], [], []⟩ 77 [.agg [.v (.int .i64 p.volume), .v (.int .i64 p.alcohol.lo), .v (.int .i64 p.alcohol.hi)]] (.agg [.v (.int .i64 r1.lo), .v (.int .i64 r1.hi)])] S (by kernel_rfl) (by kernel_rfl) (by kernel_rfl) ⟨rngI64 g1, ⟨enters_77, fun _ W _ _ => still_pot_strength_ok (MPot.mk p.volume (MSpan.mk p.alcohol.lo p.alcohol.hi)) W r1 e1⟩, trivial⟩ ?_
      clear S; intro E a w S
      obtain ⟨r2, e2, h⟩ := bind_some h
      obtain ⟨g2, h⟩ := grd_some h
      obtain ⟨r3, e3, h⟩ := bind_some h
      refine sym_seq lay_ok mixed [(6, { fp := [1500], res := .agg [.v (.int .i64 r2.lo), .v (.int .i64 r2.hi)] }), (9, { res := .v (.int .i64 r3) })] [0, 1, 4, 6, 5, 7] [1000, 1500, 0, 1] (⟨[(0, .own 1000 0), (1, .v (.int .i64 d)), (4, .own 0 0), (6, .own 1 0), (5, .v (.int .i64 (p.volume - d))), (7, .v (.int .i64 (min r3 p.alcohol.hi)))], ⟨[(1000, .blk 92 [.v (.int .i64 p.volume), .v (.int .i64 p.alcohol.lo), .v (.int .i64 p.alcohol.hi), .fn 74 [.ltr 1500 0, .ltr 1500 1, .ltr 1500 2], .fn 74 [.ltr 1500 3, .ltr 1500 4, .ltr 1500 5]]), (1500, .held (Lines c)), (0, .blk 36 [.v (.int .i64 0), .v (.int .i64 0), .v (.int .i64 0)]), (1, .blk 75 [.v (.int .i64 r1.lo), .v (.int .i64 r1.hi)])], [], []⟩⟩) [.call ⟨[(1500, .held (Lines c))], [], []⟩ 48 [.agg [.fn 74 [.ltr 1500 0, .ltr 1500 1, .ltr 1500 2], .fn 74 [.ltr 1500 3, .ltr 1500 4, .ltr 1500 5]], .agg [.v (.int .i64 r1.lo), .v (.int .i64 r1.hi)]] (.agg [.v (.int .i64 r2.lo), .v (.int .i64 r2.hi)]), .rng .i64 (d * r2.hi), .call ⟨[], [], []⟩ 59 [.v (.int .i64 (d * r2.hi)), .v (.int .i64 10000)] (.v (.int .i64 r3))] S (by kernel_rfl) (by kernel_rfl) (by kernel_rfl) ⟨⟨enters_48, fun E W _ hm => still_lines_vapour_ok fuel c r1 W _ (hm.one 1500) ((hm.held 1500 _ rfl).mono fun _ _ _ => trivial) r2 e2⟩, rngI64 g2, ⟨enters_59, fun _ W _ _ => still_up_ok (d * r2.hi) 10000 W r3 e3⟩, trivial⟩ ?_
      clear S; intro E a w S
      obtain ⟨g3, h⟩ := grd_some h
      refine sym_seq lay_ok mixed [] [0, 1, 4, 6, 5, 7, 8] [1000, 1500, 0, 1] (⟨[(0, .own 1000 0), (1, .v (.int .i64 d)), (4, .own 0 0), (6, .own 1 0), (5, .v (.int .i64 (p.volume - d))), (7, .v (.int .i64 (min r3 p.alcohol.hi))), (8, .v (.int .i64 (max (p.alcohol.lo - (min r3 p.alcohol.hi)) 0)))], ⟨[(1000, .blk 92 [.v (.int .i64 p.volume), .v (.int .i64 p.alcohol.lo), .v (.int .i64 p.alcohol.hi), .fn 74 [.ltr 1500 0, .ltr 1500 1, .ltr 1500 2], .fn 74 [.ltr 1500 3, .ltr 1500 4, .ltr 1500 5]]), (1500, .held (Lines c)), (0, .blk 36 [.v (.int .i64 0), .v (.int .i64 0), .v (.int .i64 0)]), (1, .blk 75 [.v (.int .i64 r1.lo), .v (.int .i64 r1.hi)])], [], []⟩⟩) [.rng .i64 (p.alcohol.lo - (min r3 p.alcohol.hi))] S (by kernel_rfl) (by kernel_rfl) (by kernel_rfl) ⟨rngI64 g3, trivial⟩ ?_
      clear S; intro E a w S
      obtain ⟨r4, e4, h⟩ := bind_some h
      refine sym_seq lay_ok mixed [(3, { res := .agg [.v (.int .i64 r4.lo), .v (.int .i64 r4.hi)] })] [0, 1, 4, 5, 7, 8, 9] [1000, 1500, 0] (⟨[(0, .own 1000 0), (1, .v (.int .i64 d)), (4, .own 0 0), (5, .v (.int .i64 (p.volume - d))), (7, .v (.int .i64 (min r3 p.alcohol.hi))), (8, .v (.int .i64 (max (p.alcohol.lo - (min r3 p.alcohol.hi)) 0))), (9, .v (.int .i64 (min r4.lo r1.lo)))], ⟨[(1000, .blk 92 [.v (.int .i64 p.volume), .v (.int .i64 p.alcohol.lo), .v (.int .i64 p.alcohol.hi), .fn 74 [.ltr 1500 0, .ltr 1500 1, .ltr 1500 2], .fn 74 [.ltr 1500 3, .ltr 1500 4, .ltr 1500 5]]), (1500, .held (Lines c)), (0, .blk 36 [.v (.int .i64 0), .v (.int .i64 0), .v (.int .i64 0)])], [], []⟩⟩) [.call ⟨[], [], []⟩ 56 [.agg [.v (.int .i64 (max (p.alcohol.lo - (min r3 p.alcohol.hi)) 0)), .v (.int .i64 0)], .v (.int .i64 (p.volume - d))] (.agg [.v (.int .i64 r4.lo), .v (.int .i64 r4.hi)])] S (by kernel_rfl) (by kernel_rfl) (by kernel_rfl) ⟨⟨enters_56, fun _ W _ _ => still_strength_ok (MSpan.mk (max (p.alcohol.lo - (min r3 p.alcohol.hi)) 0) 0) (p.volume - d) W r4 e4⟩, trivial⟩ ?_
      clear S; intro E a w S
      obtain ⟨r5, e5, h⟩ := bind_some h
      obtain ⟨g4, h⟩ := grd_some h
      obtain ⟨r6, e6, h⟩ := bind_some h
      obtain ⟨g5, h⟩ := grd_some h
      refine sym_seq lay_ok mixed [(7, { fp := [1500], res := .v (.int .i64 r5) }), (9, { res := .v (.int .i64 r6) })] [0, 1, 4, 5, 7, 8, 10] [1000, 1500, 0] (⟨[(0, .own 1000 0), (1, .v (.int .i64 d)), (4, .own 0 0), (5, .v (.int .i64 (p.volume - d))), (7, .v (.int .i64 (min r3 p.alcohol.hi))), (8, .v (.int .i64 (max (p.alcohol.lo - (min r3 p.alcohol.hi)) 0))), (10, .v (.int .i64 (max r6 (p.alcohol.lo - (p.volume - d)))))], ⟨[(1000, .blk 92 [.v (.int .i64 p.volume), .v (.int .i64 p.alcohol.lo), .v (.int .i64 p.alcohol.hi), .fn 74 [.ltr 1500 0, .ltr 1500 1, .ltr 1500 2], .fn 74 [.ltr 1500 3, .ltr 1500 4, .ltr 1500 5]]), (1500, .held (Lines c)), (0, .blk 36 [.v (.int .i64 0), .v (.int .i64 0), .v (.int .i64 0)])], [], []⟩⟩) [.call ⟨[(1500, .held (Lines c))], [], []⟩ 74 [.v (.int .i64 (min r4.lo r1.lo)), .ltr 1500 0, .ltr 1500 1, .ltr 1500 2] (.v (.int .i64 r5)), .rng .i64 (d * r5), .call ⟨[], [], []⟩ 68 [.v (.int .i64 (d * r5)), .v (.int .i64 10000)] (.v (.int .i64 r6)), .rng .i64 (p.alcohol.lo - (p.volume - d))] S (by kernel_rfl) (by kernel_rfl) (by kernel_rfl) ⟨⟨enters_74, fun E W _ hm => thruLow_ok fuel c (min r4.lo r1.lo) _ _ _ W (hm.held 1500 _ rfl).out.1 r5 e5⟩, rngI64 g4, ⟨enters_68, fun _ W _ _ => still_down_ok (d * r5) 10000 W r6 e6⟩, rngI64 g5, trivial⟩ ?_
      clear S; intro E a w S
      obtain ⟨⟨g6, g7⟩, h⟩ := grd_some h
      obtain ⟨r7, e7, h⟩ := bind_some h
      refine sym_seq lay_ok mixed [(22, { res := .v (.int .i64 r7) })] [0, 1, 4, 5, 7, 8, 10, 11] [1000, 1500, 0] (⟨[(0, .own 1000 0), (1, .v (.int .i64 d)), (4, .own 0 0), (5, .v (.int .i64 (p.volume - d))), (7, .v (.int .i64 (min r3 p.alcohol.hi))), (8, .v (.int .i64 (max (p.alcohol.lo - (min r3 p.alcohol.hi)) 0))), (10, .v (.int .i64 (max r6 (p.alcohol.lo - (p.volume - d))))), (11, .v (.int .i64 (min (min (p.alcohol.hi - (max r6 (p.alcohol.lo - (p.volume - d)))) (p.volume - d)) r7)))], ⟨[(1000, .blk 92 [.v (.int .i64 p.volume), .v (.int .i64 p.alcohol.lo), .v (.int .i64 p.alcohol.hi), .fn 74 [.ltr 1500 0, .ltr 1500 1, .ltr 1500 2], .fn 74 [.ltr 1500 3, .ltr 1500 4, .ltr 1500 5]]), (1500, .held (Lines c)), (0, .blk 36 [.v (.int .i64 0), .v (.int .i64 0), .v (.int .i64 0)])], [], []⟩⟩) [.rng .i64 (p.alcohol.hi - (max r6 (p.alcohol.lo - (p.volume - d)))), .rng .i64 (p.alcohol.hi * (p.volume - d)), .call ⟨[], [], []⟩ 59 [.v (.int .i64 (p.alcohol.hi * (p.volume - d))), .v (.int .i64 p.volume)] (.v (.int .i64 r7))] S (by kernel_rfl) (by kernel_rfl) (by kernel_rfl) ⟨rngI64 g6, rngI64 g7, ⟨enters_59, fun _ W _ _ => still_up_ok (p.alcohol.hi * (p.volume - d)) p.volume W r7 e7⟩, trivial⟩ ?_
      clear S; intro E a w S
      refine sym_seq lay_ok mixed [] [1, 4, 7, 10] [1000, 1500, 0] (⟨[(1, .v (.int .i64 d)), (4, .own 0 0), (7, .v (.int .i64 (min r3 p.alcohol.hi))), (10, .v (.int .i64 (max r6 (p.alcohol.lo - (p.volume - d)))))], ⟨[(1000, .blk 92 [.v (.int .i64 (p.volume - d)), .v (.int .i64 (max (p.alcohol.lo - (min r3 p.alcohol.hi)) 0)), .v (.int .i64 (min (min (p.alcohol.hi - (max r6 (p.alcohol.lo - (p.volume - d)))) (p.volume - d)) r7)), .fn 74 [.ltr 1500 0, .ltr 1500 1, .ltr 1500 2], .fn 74 [.ltr 1500 3, .ltr 1500 4, .ltr 1500 5]]), (1500, .held (Lines c)), (0, .blk 36 [.v (.int .i64 0), .v (.int .i64 0), .v (.int .i64 0)])], [], []⟩⟩) [] S (by kernel_rfl) (by kernel_rfl) (by kernel_rfl) trivial ?_
      clear S; intro E a w S
      refine sym_seq lay_ok mixed [] [4] [1000, 1500, 0] (⟨[(4, .own 0 0)], ⟨[(1000, .blk 92 [.v (.int .i64 (p.volume - d)), .v (.int .i64 (max (p.alcohol.lo - (min r3 p.alcohol.hi)) 0)), .v (.int .i64 (min (min (p.alcohol.hi - (max r6 (p.alcohol.lo - (p.volume - d)))) (p.volume - d)) r7)), .fn 74 [.ltr 1500 0, .ltr 1500 1, .ltr 1500 2], .fn 74 [.ltr 1500 3, .ltr 1500 4, .ltr 1500 5]]), (1500, .held (Lines c)), (0, .blk 36 [.v (.int .i64 d), .v (.int .i64 (max r6 (p.alcohol.lo - (p.volume - d)))), .v (.int .i64 (min r3 p.alcohol.hi))])], [], []⟩⟩) [] S (by kernel_rfl) (by kernel_rfl) (by kernel_rfl) trivial ?_
      clear S; intro E a w S
      refine wp_ret ?_
      have h := Option.some.inj h
      subst h
      exact sym_ret lay_ok [.agg [.v (.int .i64 d), .v (.int .i64 (max r6 (p.alcohol.lo - (p.volume - d)))), .v (.int .i64 (min r3 p.alcohol.hi))]] (by kernel_rfl) rfl S ⟨drawn_kept S, rfl, drawn_blk S rfl rfl (by simp only [SV.vals, SV.val, S.pin.2.2 1500 (by decide)]; rfl)⟩
/-- two blocks that hold the amounts, and the run -/
def Boxes (D : Option Addr) (n cap b : Nat) (v : Nat → Value) (w : World) : Prop := ∃ x y, v 0 = .pointer (some ⟨x, 0, none⟩) ∧ v 1 = .pointer (some ⟨y, 0, none⟩) ∧ x ≠ y ∧ Blk w x 22 #[.slice D n cap] ∧ Blk w y 106 #[.pointer (some ⟨b, 0, none⟩)]
set_option maxRecDepth 100000 in
set_option maxHeartbeats 4000000 in
theorem drawsOf_ok (b : Nat) (D : Option Addr) (n cap : Nat) (W : World) : Calls Go.Proofs.Try.prog 72 #[.pointer (some ⟨b, 0, none⟩), .slice D n cap] W fun e w' => ∃ v : Nat → Value, e = .returned (.func (.func 75) #[] #[v 0, v 1]) ∧ Below W.heap.size W w' ∧ (∀ i, (v i).oneCell' = true) ∧ HeldIn (fun k => W.heap.size ≤ k) w' (Boxes D n cap b v) := by
  have h : (some () : Option Unit) = some () := rfl
  refine sym_call (f := 72) (fn := Go.Proofs.Try.f72) (c := Go.Proofs.Try.f72.body.get rfl) Go.Proofs.Try.func72 rfl [.v (.pointer (some ⟨b, 0, none⟩)), .v (.slice D n cap)] [] [] (envOf []) allR (fun _ _ => rfl) (by kernel_rfl) (envOf_one trivial) trivial trivial trivial fun E a w S => ?_
  refine sym_seq lay_ok mixed [(0, { g := 0 }), (1, { g := 1 })] [2, 3] [0, 1] (⟨[(2, .own 0 0), (3, .own 1 0)], ⟨[(0, .blk 106 [.v (.pointer (some ⟨b, 0, none⟩))]), (1, .blk 22 [.v (.slice D n cap)])], [], []⟩⟩) [] S (by kernel_rfl) (by kernel_rfl) (by kernel_rfl) trivial ?_
  clear S; intro E a w S
  refine sym_seq lay_ok mixed [] [4] [0, 1] (⟨[(4, .fn 75 [.own 1 0, .own 0 0])], ⟨[(0, .blk 106 [.v (.pointer (some ⟨b, 0, none⟩))]), (1, .blk 22 [.v (.slice D n cap)])], [], []⟩⟩) [] S (by kernel_rfl) (by kernel_rfl) (by kernel_rfl) trivial ?_
  clear S; intro E a w S
  refine wp_ret ?_
  have h := Option.some.inj h
  clear h
  exact sym_ret lay_ok [.fn 75 [.own 1 0, .own 0 0]] (by kernel_rfl) rfl S ⟨vfun [.pointer (some ⟨E.ρ 1, 0, none⟩), .pointer (some ⟨E.ρ 0, 0, none⟩)], rfl, S.below rfl, vfun_one _ ⟨rfl, rfl, trivial⟩, ((S.own_blk (g := 1) rfl rfl).and (S.own_blk (g := 0) rfl rfl)).imp fun w hw => ⟨_, _, rfl, rfl, fun e => absurd (S.sep.inj 1 0 _ _ _ _ rfl rfl e) (by decide), hw.1, hw.2⟩⟩
def still_strengths  : Option MSpan :=
some (MSpan.mk 0 10000)
set_option maxRecDepth 100000 in
set_option maxHeartbeats 4000000 in
theorem still_strengths_ok  (W : World)  (res : MSpan) (h : still_strengths  = some res) :
    Calls Go.Proofs.Try.prog 45 #[] W fun e w' => e = .returned (.agg #[.int .i64 res.lo, .int .i64 res.hi]) ∧ Below W.heap.size W w' := by
  refine sym_call (f := 45) (fn := Go.Proofs.Try.f45) (c := Go.Proofs.Try.f45.body.get rfl) Go.Proofs.Try.func45 rfl [] [] [] (envOf []) allR (fun _ _ => rfl) (by kernel_rfl) (envOf_one trivial) trivial (AllRR.all _ _) trivial fun E a w S => ?_
  rw [still_strengths] at h
  refine sym_seq lay_ok mixed [(0, { g := 0 })] [0] [0] (⟨[(0, .own 0 0)], ⟨[(0, .blk 75 [.v (.int .i64 0), .v (.int .i64 0)])], [], []⟩⟩) [] S (by kernel_rfl) (by kernel_rfl) (by kernel_rfl) trivial ?_
  clear S; intro E a w S
  refine sym_seq lay_ok mixed [] [0] [0] (⟨[(0, .own 0 0)], ⟨[(0, .blk 75 [.v (.int .i64 0), .v (.int .i64 10000)])], [], []⟩⟩) [] S (by kernel_rfl) (by kernel_rfl) (by kernel_rfl) trivial ?_
  clear S; intro E a w S
  refine wp_ret ?_
  have h := Option.some.inj h
  subst h
  exact sym_ret lay_ok [.agg [.v (.int .i64 0), .v (.int .i64 10000)]] (by kernel_rfl) rfl S ⟨rfl, S.below rfl⟩
def still_span_covers (s : MSpan) (other : MSpan) : Option Bool :=
some ((decide (s.lo ≤ other.lo) && decide (other.lo ≤ other.hi)) && decide (other.hi ≤ s.hi))
set_option maxRecDepth 100000 in
set_option maxHeartbeats 4000000 in
theorem still_span_covers_ok (s : MSpan) (other : MSpan) (W : World)  (res : Bool) (h : still_span_covers s other = some res) :
    Calls Go.Proofs.Try.prog 46 #[.agg #[.int .i64 s.lo, .int .i64 s.hi], .agg #[.int .i64 other.lo, .int .i64 other.hi]] W fun e w' => e = .returned (.bool res) ∧ Below W.heap.size W w' := by
  refine sym_call (f := 46) (fn := Go.Proofs.Try.f46) (c := Go.Proofs.Try.f46.body.get rfl) Go.Proofs.Try.func46 rfl [.agg [.v (.int .i64 s.lo), .v (.int .i64 s.hi)], .agg [.v (.int .i64 other.lo), .v (.int .i64 other.hi)]] [] [] (envOf []) allR (fun _ _ => rfl) (by kernel_rfl) (envOf_one trivial) trivial (AllRR.all _ _) trivial fun E a w S => ?_
  rw [still_span_covers] at h
  refine sym_seq lay_ok mixed [(0, { g := 0 }), (1, { g := 1 })] [2, 3] [0, 1] (⟨[(2, .own 0 0), (3, .own 1 0)], ⟨[(0, .blk 75 [.v (.int .i64 s.lo), .v (.int .i64 s.hi)]), (1, .blk 27 [.v (.int .i64 other.lo), .v (.int .i64 other.hi)])], [], []⟩⟩) [] S (by kernel_rfl) (by kernel_rfl) (by kernel_rfl) trivial ?_
  clear S; intro E a w S
  refine sym_seq lay_ok mixed [(6, { og := true }), (7, { og := true }), (8, { og := true }), (9, { og := true }), (10, { og := true }), (11, { pk := true }), (13, { og := true }), (14, { og := true }), (15, { og := true }), (16, { og := true }), (17, { og := true }), (18, { pk := true })] [4] [] (⟨[(4, .v (.bool ((decide (s.lo ≤ other.lo) && decide (other.lo ≤ other.hi)) && decide (other.hi ≤ s.hi))))], ⟨[], [], []⟩⟩) [.imp (decide (s.lo ≤ other.lo)) (decide (s.lo ≤ other.lo)), .imp (decide (s.lo ≤ other.lo)) (decide (s.lo ≤ other.lo)), .imp (decide (s.lo ≤ other.lo)) (decide (s.lo ≤ other.lo)), .imp (decide (s.lo ≤ other.lo)) (decide (s.lo ≤ other.lo)), .imp (decide (s.lo ≤ other.lo)) (decide (s.lo ≤ other.lo)), .imp (decide (s.lo ≤ other.lo) && decide (other.lo ≤ other.hi)) (decide (s.lo ≤ other.lo) && decide (other.lo ≤ other.hi)), .imp (decide (s.lo ≤ other.lo) && decide (other.lo ≤ other.hi)) (decide (s.lo ≤ other.lo) && decide (other.lo ≤ other.hi)), .imp (decide (s.lo ≤ other.lo) && decide (other.lo ≤ other.hi)) (decide (s.lo ≤ other.lo) && decide (other.lo ≤ other.hi)), .imp (decide (s.lo ≤ other.lo) && decide (other.lo ≤ other.hi)) (decide (s.lo ≤ other.lo) && decide (other.lo ≤ other.hi)), .imp (decide (s.lo ≤ other.lo) && decide (other.lo ≤ other.hi)) (decide (s.lo ≤ other.lo) && decide (other.lo ≤ other.hi))] S (by kernel_rfl) (by kernel_rfl) (by kernel_rfl) ⟨fun h => h, fun h => h, fun h => h, fun h => h, fun h => h, fun h => h, fun h => h, fun h => h, fun h => h, fun h => h, trivial⟩ ?_
  clear S; intro E a w S
  refine wp_ret ?_
  have h := Option.some.inj h
  subst h
  exact sym_ret lay_ok [.v (.bool ((decide (s.lo ≤ other.lo) && decide (other.lo ≤ other.hi)) && decide (other.hi ≤ s.hi)))] (by kernel_rfl) rfl S ⟨rfl, S.below rfl⟩
def still_rises_R (c : MCurve) (i : Int) : List (Nat × Q) := [(0, ⟨c.liquid.length, 1, fun i => [.int .i64 (c.liquid.getD i default)]⟩), (1, ⟨c.vapour.length, 2, fun i => [.int .i64 ((c.vapour.getD i default).lo), .int .i64 ((c.vapour.getD i default).hi)]⟩)]
def still_rises (c : MCurve) (i : Int) : Option Bool :=
grd (InI64 (i - 1) ∧ ((0 : Int) ≤ (i - 1) ∧ ((i - 1) : Int) < ((c.vapour.length : Nat) : Int)) ∧ ((0 : Int) ≤ i ∧ (i : Int) < ((c.vapour.length : Nat) : Int))) <|
grd (InI64 (i - 1) ∧ ((0 : Int) ≤ (i - 1) ∧ ((i - 1) : Int) < ((c.liquid.length : Nat) : Int)) ∧ ((0 : Int) ≤ i ∧ (i : Int) < ((c.liquid.length : Nat) : Int))) <|
some ((decide ((c.liquid.getD (Int.toNat (i - 1)) default) < (c.liquid.getD (Int.toNat i) default)) && decide (((c.vapour.getD (Int.toNat (i - 1)) default).lo) ≤ ((c.vapour.getD (Int.toNat i) default).lo))) && decide (((c.vapour.getD (Int.toNat (i - 1)) default).hi) ≤ ((c.vapour.getD (Int.toNat i) default).hi)))
set_option maxRecDepth 100000 in
set_option maxHeartbeats 4000000 in
theorem still_rises_ok (c : MCurve) (i : Int) (W : World) (A0 : Option Addr) (c0 : Nat) (h0 : c.liquid.length ≤ c0) (s0 : SlAt W A0 c.liquid.length 1 fun i => [.int .i64 (c.liquid.getD i default)]) (A1 : Option Addr) (c1 : Nat) (h1 : c.vapour.length ≤ c1) (s1 : SlAt W A1 c.vapour.length 2 fun i => [.int .i64 ((c.vapour.getD i default).lo), .int .i64 ((c.vapour.getD i default).hi)]) (res : Bool) (h : still_rises c i = some res) :
    Calls Go.Proofs.Try.prog 65 #[.agg #[.slice A0 c.liquid.length c0, .slice A1 c.vapour.length c1], .int .i64 i] W fun e w' => e = .returned (.bool res) ∧ Below W.heap.size W w' := by
  refine sym_call (f := 65) (fn := Go.Proofs.Try.f65) (c := Go.Proofs.Try.f65.body.get rfl) Go.Proofs.Try.func65 rfl [.agg [.sl 0, .sl 1], .v (.int .i64 i)] (still_rises_R c i) [] (envOf [(0, ⟨A0, c.liquid.length, c0, 1⟩), (1, ⟨A1, c.vapour.length, c1, 2⟩)]) allR (fun _ _ => rfl) (by kernel_rfl) (envOf_one trivial) ⟨s0.rd h0, s1.rd h1, trivial⟩ (AllRR.all _ _) trivial fun E a w S => ?_
  rw [still_rises] at h
  refine sym_seq lay_ok mixed [(0, { g := 0 })] [1, 2] [0] (⟨[(1, .v (.int .i64 i)), (2, .own 0 0)], ⟨[(0, .blk 25 [.sl 0, .sl 1])], (still_rises_R c i), []⟩⟩) [] S (by kernel_rfl) (by kernel_rfl) (by kernel_rfl) trivial ?_
  clear S; intro E a w S
  obtain ⟨⟨g1, g2, g3⟩, h⟩ := grd_some h
  refine sym_seq lay_ok mixed [(11, { g := 1 }), (12, { g := 2 })] [1, 2, 5, 6] [0, 1, 2] (⟨[(1, .v (.int .i64 i)), (2, .own 0 0), (5, .own 1 0), (6, .own 2 0)], ⟨[(0, .blk 25 [.sl 0, .sl 1]), (1, .blk 27 [.v (.int .i64 ((c.vapour.getD (Int.toNat (i - 1)) default).lo)), .v (.int .i64 ((c.vapour.getD (Int.toNat (i - 1)) default).hi))]), (2, .blk 27 [.v (.int .i64 ((c.vapour.getD (Int.toNat i) default).lo)), .v (.int .i64 ((c.vapour.getD (Int.toNat i) default).hi))])], (still_rises_R c i), []⟩⟩) [.rng .i64 (i - 1), .idx (i - 1) c.vapour.length, .idx (i - 1) c.vapour.length, .idx i c.vapour.length, .idx i c.vapour.length] S (by kernel_rfl) (by kernel_rfl) (by kernel_rfl) ⟨rngI64 g1, g2, g2, g3, g3, trivial⟩ ?_
  clear S; intro E a w S
  obtain ⟨⟨g4, g5, g6⟩, h⟩ := grd_some h
  refine sym_seq lay_ok mixed [(13, { og := true }), (14, { og := true }), (15, { og := true }), (16, { og := true }), (17, { og := true }), (18, { pk := true }), (20, { og := true }), (21, { og := true }), (22, { og := true }), (23, { og := true }), (24, { og := true }), (25, { pk := true })] [4] [] (⟨[(4, .v (.bool ((decide ((c.liquid.getD (Int.toNat (i - 1)) default) < (c.liquid.getD (Int.toNat i) default)) && decide (((c.vapour.getD (Int.toNat (i - 1)) default).lo) ≤ ((c.vapour.getD (Int.toNat i) default).lo))) && decide (((c.vapour.getD (Int.toNat (i - 1)) default).hi) ≤ ((c.vapour.getD (Int.toNat i) default).hi)))))], ⟨[], (still_rises_R c i), []⟩⟩) [.rng .i64 (i - 1), .idx (i - 1) c.liquid.length, .idx (i - 1) c.liquid.length, .idx i c.liquid.length, .idx i c.liquid.length, .imp (decide ((c.liquid.getD (Int.toNat (i - 1)) default) < (c.liquid.getD (Int.toNat i) default))) (decide ((c.liquid.getD (Int.toNat (i - 1)) default) < (c.liquid.getD (Int.toNat i) default))), .imp (decide ((c.liquid.getD (Int.toNat (i - 1)) default) < (c.liquid.getD (Int.toNat i) default))) (decide ((c.liquid.getD (Int.toNat (i - 1)) default) < (c.liquid.getD (Int.toNat i) default))), .imp (decide ((c.liquid.getD (Int.toNat (i - 1)) default) < (c.liquid.getD (Int.toNat i) default))) (decide ((c.liquid.getD (Int.toNat (i - 1)) default) < (c.liquid.getD (Int.toNat i) default))), .imp (decide ((c.liquid.getD (Int.toNat (i - 1)) default) < (c.liquid.getD (Int.toNat i) default))) (decide ((c.liquid.getD (Int.toNat (i - 1)) default) < (c.liquid.getD (Int.toNat i) default))), .imp (decide ((c.liquid.getD (Int.toNat (i - 1)) default) < (c.liquid.getD (Int.toNat i) default))) (decide ((c.liquid.getD (Int.toNat (i - 1)) default) < (c.liquid.getD (Int.toNat i) default))), .imp (decide ((c.liquid.getD (Int.toNat (i - 1)) default) < (c.liquid.getD (Int.toNat i) default)) && decide (((c.vapour.getD (Int.toNat (i - 1)) default).lo) ≤ ((c.vapour.getD (Int.toNat i) default).lo))) (decide ((c.liquid.getD (Int.toNat (i - 1)) default) < (c.liquid.getD (Int.toNat i) default)) && decide (((c.vapour.getD (Int.toNat (i - 1)) default).lo) ≤ ((c.vapour.getD (Int.toNat i) default).lo))), .imp (decide ((c.liquid.getD (Int.toNat (i - 1)) default) < (c.liquid.getD (Int.toNat i) default)) && decide (((c.vapour.getD (Int.toNat (i - 1)) default).lo) ≤ ((c.vapour.getD (Int.toNat i) default).lo))) (decide ((c.liquid.getD (Int.toNat (i - 1)) default) < (c.liquid.getD (Int.toNat i) default)) && decide (((c.vapour.getD (Int.toNat (i - 1)) default).lo) ≤ ((c.vapour.getD (Int.toNat i) default).lo))), .imp (decide ((c.liquid.getD (Int.toNat (i - 1)) default) < (c.liquid.getD (Int.toNat i) default)) && decide (((c.vapour.getD (Int.toNat (i - 1)) default).lo) ≤ ((c.vapour.getD (Int.toNat i) default).lo))) (decide ((c.liquid.getD (Int.toNat (i - 1)) default) < (c.liquid.getD (Int.toNat i) default)) && decide (((c.vapour.getD (Int.toNat (i - 1)) default).lo) ≤ ((c.vapour.getD (Int.toNat i) default).lo))), .imp (decide ((c.liquid.getD (Int.toNat (i - 1)) default) < (c.liquid.getD (Int.toNat i) default)) && decide (((c.vapour.getD (Int.toNat (i - 1)) default).lo) ≤ ((c.vapour.getD (Int.toNat i) default).lo))) (decide ((c.liquid.getD (Int.toNat (i - 1)) default) < (c.liquid.getD (Int.toNat i) default)) && decide (((c.vapour.getD (Int.toNat (i - 1)) default).lo) ≤ ((c.vapour.getD (Int.toNat i) default).lo))), .imp (decide ((c.liquid.getD (Int.toNat (i - 1)) default) < (c.liquid.getD (Int.toNat i) default)) && decide (((c.vapour.getD (Int.toNat (i - 1)) default).lo) ≤ ((c.vapour.getD (Int.toNat i) default).lo))) (decide ((c.liquid.getD (Int.toNat (i - 1)) default) < (c.liquid.getD (Int.toNat i) default)) && decide (((c.vapour.getD (Int.toNat (i - 1)) default).lo) ≤ ((c.vapour.getD (Int.toNat i) default).lo)))] S (by kernel_rfl) (by kernel_rfl) (by kernel_rfl) ⟨rngI64 g4, g5, g5, g6, g6, fun h => h, fun h => h, fun h => h, fun h => h, fun h => h, fun h => h, fun h => h, fun h => h, fun h => h, fun h => h, trivial⟩ ?_
  clear S; intro E a w S
  refine wp_ret ?_
  have h := Option.some.inj h
  subst h
  exact sym_ret lay_ok [.v (.bool ((decide ((c.liquid.getD (Int.toNat (i - 1)) default) < (c.liquid.getD (Int.toNat i) default)) && decide (((c.vapour.getD (Int.toNat (i - 1)) default).lo) ≤ ((c.vapour.getD (Int.toNat i) default).lo))) && decide (((c.vapour.getD (Int.toNat (i - 1)) default).hi) ≤ ((c.vapour.getD (Int.toNat i) default).hi))))] (by kernel_rfl) rfl S ⟨rfl, S.below rfl⟩
def still_validCurve_R (c : MCurve) : List (Nat × Q) := [(0, ⟨c.liquid.length, 1, fun i => [.int .i64 (c.liquid.getD i default)]⟩), (1, ⟨c.vapour.length, 2, fun i => [.int .i64 ((c.vapour.getD i default).lo), .int .i64 ((c.vapour.getD i default).hi)]⟩)]
def still_validCurve_k1  (x1 : Unit) : Option Bool :=
some true
def still_validCurve_l1 (c : MCurve) : Nat → Int → Option (Lp Unit Bool)
  | 0, _ => none
  | n + 1, b1 =>
    (bif decide (b1 < ((c.vapour.length : Nat) : Int)) then
    (grd (((0 : Int) ≤ b1 ∧ (b1 : Int) < ((c.vapour.length : Nat) : Int))) <|
    (still_strengths).bind fun (r1 : MSpan) =>
    (still_span_covers r1 (c.vapour.getD (Int.toNat b1) default)).bind fun (r2 : Bool) =>
    grd (((!(!r2)) = true → ((0 : Int) ≤ b1 ∧ (b1 : Int) < ((c.liquid.length : Nat) : Int)))) <|
    ((bif ((!((!r2) || decide (((c.vapour.getD (Int.toNat b1) default).lo) < (c.liquid.getD (Int.toNat b1) default)))) && decide (0 < b1)) then still_rises c b1 else some default)).bind fun (r3 : Bool) =>
    (bif (((!r2) || decide (((c.vapour.getD (Int.toNat b1) default).lo) < (c.liquid.getD (Int.toNat b1) default))) || (decide (0 < b1) && (!r3))) then
    (some (Lp.ret false))
    else
    (grd (InI64 (b1 + 1)) <|
    still_validCurve_l1 c n (b1 + 1))))
    else
    (some (Lp.done ())))
def still_validCurve (fuel : Nat) (c : MCurve) : Option Bool :=
(bif ((decide (((c.liquid.length : Nat) : Int) < 2) || decide (32 < ((c.liquid.length : Nat) : Int))) || (((c.vapour.length : Nat) : Int) != ((c.liquid.length : Nat) : Int))) then
(some false)
else
(grd (((0 : Int) ≤ 0 ∧ (0 : Int) < ((c.liquid.length : Nat) : Int)) ∧ ((!((c.liquid.getD (Int.toNat 0) default) != 0)) = true → InI64 (((c.liquid.length : Nat) : Int) - 1)) ∧ ((!((c.liquid.getD (Int.toNat 0) default) != 0)) = true → ((0 : Int) ≤ (((c.liquid.length : Nat) : Int) - 1) ∧ ((((c.liquid.length : Nat) : Int) - 1) : Int) < ((c.liquid.length : Nat) : Int))) ∧ ((!(((c.liquid.getD (Int.toNat 0) default) != 0) || ((c.liquid.getD (Int.toNat (((c.liquid.length : Nat) : Int) - 1)) default) != 10000))) = true → ((0 : Int) ≤ 0 ∧ (0 : Int) < ((c.vapour.length : Nat) : Int)))) <|
(bif ((((c.liquid.getD (Int.toNat 0) default) != 0) || ((c.liquid.getD (Int.toNat (((c.liquid.length : Nat) : Int) - 1)) default) != 10000)) || (((c.vapour.getD (Int.toNat 0) default).lo) != 0)) then
(some false)
else
((still_validCurve_l1 c fuel 0).bind fun lr1 => lr1.go fun x1 => still_validCurve_k1 x1))))
set_option maxRecDepth 100000 in
set_option maxHeartbeats 4000000 in
theorem still_validCurve_ok (fuel : Nat) (c : MCurve) (W : World) (A0 : Option Addr) (c0 : Nat) (h0 : c.liquid.length ≤ c0) (s0 : SlAt W A0 c.liquid.length 1 fun i => [.int .i64 (c.liquid.getD i default)]) (A1 : Option Addr) (c1 : Nat) (h1 : c.vapour.length ≤ c1) (s1 : SlAt W A1 c.vapour.length 2 fun i => [.int .i64 ((c.vapour.getD i default).lo), .int .i64 ((c.vapour.getD i default).hi)]) (res : Bool) (h : still_validCurve fuel c = some res) :
    Calls Go.Proofs.Try.prog 44 #[.agg #[.slice A0 c.liquid.length c0, .slice A1 c.vapour.length c1]] W fun e w' => e = .returned (.bool res) ∧ Below W.heap.size W w' := by
  refine sym_call (f := 44) (fn := Go.Proofs.Try.f44) (c := Go.Proofs.Try.f44.body.get rfl) Go.Proofs.Try.func44 rfl [.agg [.sl 0, .sl 1]] (still_validCurve_R c) [] (envOf [(0, ⟨A0, c.liquid.length, c0, 1⟩), (1, ⟨A1, c.vapour.length, c1, 2⟩)]) allR (fun _ _ => rfl) (by kernel_rfl) (envOf_one trivial) ⟨s0.rd h0, s1.rd h1, trivial⟩ (AllRR.all _ _) trivial fun E a w S => ?_
  rw [still_validCurve] at h
  refine sym_seq lay_ok mixed [(0, { g := 0 })] [1] [0] (⟨[(1, .own 0 0)], ⟨[(0, .blk 25 [.sl 0, .sl 1])], (still_validCurve_R c), []⟩⟩) [] S (by kernel_rfl) (by kernel_rfl) (by kernel_rfl) trivial ?_
  clear S; intro E a w S
  refine sym_seq lay_ok mixed [] [1, 3] [0] (⟨[(1, .own 0 0), (3, .v (.int .i64 ((c.liquid.length : Nat) : Int)))], ⟨[(0, .blk 25 [.sl 0, .sl 1])], (still_validCurve_R c), []⟩⟩) [] S (by kernel_rfl) (by kernel_rfl) (by kernel_rfl) trivial ?_
  clear S; intro E a w S
  refine wp_seq ?_
  refine sym_seq lay_ok mixed [(3, { og := true }), (4, { og := true }), (5, { pk := true }), (7, { og := true }), (8, { og := true }), (9, { og := true }), (10, { og := true }), (11, { og := true }), (12, { pk := true })] [1, 3, 21] [0] (⟨[(1, .own 0 0), (3, .v (.int .i64 ((c.liquid.length : Nat) : Int))), (21, .v (.bool ((decide (((c.liquid.length : Nat) : Int) < 2) || decide (32 < ((c.liquid.length : Nat) : Int))) || (((c.vapour.length : Nat) : Int) != ((c.liquid.length : Nat) : Int)))))], ⟨[(0, .blk 25 [.sl 0, .sl 1])], (still_validCurve_R c), []⟩⟩) [.imp (!(decide (((c.liquid.length : Nat) : Int) < 2))) (!(decide (((c.liquid.length : Nat) : Int) < 2))), .imp (!(decide (((c.liquid.length : Nat) : Int) < 2))) (!(decide (((c.liquid.length : Nat) : Int) < 2))), .imp (!(decide (((c.liquid.length : Nat) : Int) < 2) || decide (32 < ((c.liquid.length : Nat) : Int)))) (!(decide (((c.liquid.length : Nat) : Int) < 2) || decide (32 < ((c.liquid.length : Nat) : Int)))), .imp (!(decide (((c.liquid.length : Nat) : Int) < 2) || decide (32 < ((c.liquid.length : Nat) : Int)))) (!(decide (((c.liquid.length : Nat) : Int) < 2) || decide (32 < ((c.liquid.length : Nat) : Int)))), .imp (!(decide (((c.liquid.length : Nat) : Int) < 2) || decide (32 < ((c.liquid.length : Nat) : Int)))) (!(decide (((c.liquid.length : Nat) : Int) < 2) || decide (32 < ((c.liquid.length : Nat) : Int)))), .imp (!(decide (((c.liquid.length : Nat) : Int) < 2) || decide (32 < ((c.liquid.length : Nat) : Int)))) (!(decide (((c.liquid.length : Nat) : Int) < 2) || decide (32 < ((c.liquid.length : Nat) : Int)))), .imp (!(decide (((c.liquid.length : Nat) : Int) < 2) || decide (32 < ((c.liquid.length : Nat) : Int)))) (!(decide (((c.liquid.length : Nat) : Int) < 2) || decide (32 < ((c.liquid.length : Nat) : Int))))] S (by kernel_rfl) (by kernel_rfl) (by kernel_rfl) ⟨fun h => h, fun h => h, fun h => h, fun h => h, fun h => h, fun h => h, fun h => h, trivial⟩ ?_
  clear S; intro E a w S
  refine sym_if_last (b := ((decide (((c.liquid.length : Nat) : Int) < 2) || decide (32 < ((c.liquid.length : Nat) : Int))) || (((c.vapour.length : Nat) : Int) != ((c.liquid.length : Nat) : Int)))) S rfl (fun hb1 => ?_) (fun hb1 => ?_)
  · have h := bif_t hb1 h
    refine sym_seq lay_ok mixed [] [2] [] (⟨[(2, .v (.bool false))], ⟨[], (still_validCurve_R c), []⟩⟩) [] S (by kernel_rfl) (by kernel_rfl) (by kernel_rfl) trivial ?_
    clear S; intro E a w S
    refine wp_ret ?_
    refine out_then_ret ?_
    have h := Option.some.inj h
    subst h
    exact sym_ret lay_ok [.v (.bool false)] (by kernel_rfl) rfl S ⟨rfl, S.below rfl⟩
  · have h := bif_f hb1 h
    refine wp_skip ?_
    refine out_then_normal ?_
    refine wp_seq ?_
    obtain ⟨⟨g1, g2, g3, g4⟩, h⟩ := grd_some h
    refine sym_seq lay_ok mixed [(6, { og := true }), (7, { og := true }), (8, { og := true }), (9, { og := true }), (10, { og := true }), (11, { og := true }), (12, { og := true }), (13, { pk := true }), (15, { og := true }), (16, { og := true }), (17, { og := true }), (18, { og := true }), (19, { og := true }), (20, { og := true }), (21, { pk := true })] [1, 43] [0] (⟨[(1, .own 0 0), (43, .v (.bool ((((c.liquid.getD (Int.toNat 0) default) != 0) || ((c.liquid.getD (Int.toNat (((c.liquid.length : Nat) : Int) - 1)) default) != 10000)) || (((c.vapour.getD (Int.toNat 0) default).lo) != 0))))], ⟨[(0, .blk 25 [.sl 0, .sl 1])], (still_validCurve_R c), []⟩⟩) [.idx 0 c.liquid.length, .idx 0 c.liquid.length, .imp (!((c.liquid.getD (Int.toNat 0) default) != 0)) (!((c.liquid.getD (Int.toNat 0) default) != 0)), .imp (!((c.liquid.getD (Int.toNat 0) default) != 0)) (!((c.liquid.getD (Int.toNat 0) default) != 0)), .when (!((c.liquid.getD (Int.toNat 0) default) != 0)) (.rng .i64 (((c.liquid.length : Nat) : Int) - 1)), .imp (!((c.liquid.getD (Int.toNat 0) default) != 0)) (!((c.liquid.getD (Int.toNat 0) default) != 0)), .imp (!((c.liquid.getD (Int.toNat 0) default) != 0)) (!((c.liquid.getD (Int.toNat 0) default) != 0)), .when (!((c.liquid.getD (Int.toNat 0) default) != 0)) (.idx (((c.liquid.length : Nat) : Int) - 1) c.liquid.length), .imp (!((c.liquid.getD (Int.toNat 0) default) != 0)) (!((c.liquid.getD (Int.toNat 0) default) != 0)), .when (!((c.liquid.getD (Int.toNat 0) default) != 0)) (.idx (((c.liquid.length : Nat) : Int) - 1) c.liquid.length), .imp (!((c.liquid.getD (Int.toNat 0) default) != 0)) (!((c.liquid.getD (Int.toNat 0) default) != 0)), .imp (!((c.liquid.getD (Int.toNat 0) default) != 0)) (!((c.liquid.getD (Int.toNat 0) default) != 0)), .imp (!(((c.liquid.getD (Int.toNat 0) default) != 0) || ((c.liquid.getD (Int.toNat (((c.liquid.length : Nat) : Int) - 1)) default) != 10000))) (!(((c.liquid.getD (Int.toNat 0) default) != 0) || ((c.liquid.getD (Int.toNat (((c.liquid.length : Nat) : Int) - 1)) default) != 10000))), .imp (!(((c.liquid.getD (Int.toNat 0) default) != 0) || ((c.liquid.getD (Int.toNat (((c.liquid.length : Nat) : Int) - 1)) default) != 10000))) (!(((c.liquid.getD (Int.toNat 0) default) != 0) || ((c.liquid.getD (Int.toNat (((c.liquid.length : Nat) : Int) - 1)) default) != 10000))), .when (!(((c.liquid.getD (Int.toNat 0) default) != 0) || ((c.liquid.getD (Int.toNat (((c.liquid.length : Nat) : Int) - 1)) default) != 10000))) (.idx 0 c.vapour.length), .imp (!(((c.liquid.getD (Int.toNat 0) default) != 0) || ((c.liquid.getD (Int.toNat (((c.liquid.length : Nat) : Int) - 1)) default) != 10000))) (!(((c.liquid.getD (Int.toNat 0) default) != 0) || ((c.liquid.getD (Int.toNat (((c.liquid.length : Nat) : Int) - 1)) default) != 10000))), .when (!(((c.liquid.getD (Int.toNat 0) default) != 0) || ((c.liquid.getD (Int.toNat (((c.liquid.length : Nat) : Int) - 1)) default) != 10000))) (.idx 0 c.vapour.length), .imp (!(((c.liquid.getD (Int.toNat 0) default) != 0) || ((c.liquid.getD (Int.toNat (((c.liquid.length : Nat) : Int) - 1)) default) != 10000))) (!(((c.liquid.getD (Int.toNat 0) default) != 0) || ((c.liquid.getD (Int.toNat (((c.liquid.length : Nat) : Int) - 1)) default) != 10000))), .when (!(((c.liquid.getD (Int.toNat 0) default) != 0) || ((c.liquid.getD (Int.toNat (((c.liquid.length : Nat) : Int) - 1)) default) != 10000))) (.idx 0 c.vapour.length), .imp (!(((c.liquid.getD (Int.toNat 0) default) != 0) || ((c.liquid.getD (Int.toNat (((c.liquid.length : Nat) : Int) - 1)) default) != 10000))) (!(((c.liquid.getD (Int.toNat 0) default) != 0) || ((c.liquid.getD (Int.toNat (((c.liquid.length : Nat) : Int) - 1)) default) != 10000))), .imp (!(((c.liquid.getD (Int.toNat 0) default) != 0) || ((c.liquid.getD (Int.toNat (((c.liquid.length : Nat) : Int) - 1)) default) != 10000))) (!(((c.liquid.getD (Int.toNat 0) default) != 0) || ((c.liquid.getD (Int.toNat (((c.liquid.length : Nat) : Int) - 1)) default) != 10000)))] S (by kernel_rfl) (by kernel_rfl) (by kernel_rfl) (by exact ⟨g1, g1, fun h => h, fun h => h, fun hW => rngI64 (g2 hW), fun h => h, fun h => h, fun hW => (g3 hW), fun h => h, fun hW => (g3 hW), fun h => h, fun h => h, fun h => h, fun h => h, fun hW => (g4 hW), fun h => h, fun hW => (g4 hW), fun h => h, fun hW => (g4 hW), fun h => h, fun h => h, trivial⟩) ?_
    clear S; intro E a w S
    refine sym_if_last (b := ((((c.liquid.getD (Int.toNat 0) default) != 0) || ((c.liquid.getD (Int.toNat (((c.liquid.length : Nat) : Int) - 1)) default) != 10000)) || (((c.vapour.getD (Int.toNat 0) default).lo) != 0))) S rfl (fun hb2 => ?_) (fun hb2 => ?_)
    · have h := bif_t hb2 h
      refine sym_seq lay_ok mixed [] [2] [] (⟨[(2, .v (.bool false))], ⟨[], (still_validCurve_R c), []⟩⟩) [] S (by kernel_rfl) (by kernel_rfl) (by kernel_rfl) trivial ?_
      clear S; intro E a w S
      refine wp_ret ?_
      refine out_then_ret ?_
      have h := Option.some.inj h
      subst h
      exact sym_ret lay_ok [.v (.bool false)] (by kernel_rfl) rfl S ⟨rfl, S.below rfl⟩
    · have h := bif_f hb2 h
      refine wp_skip ?_
      refine out_then_normal ?_
      refine wp_seq ?_
      refine sym_seq lay_ok mixed [] [1, 45, 46, 47] [0] (⟨[(1, .own 0 0), (45, .sl 1), (46, .v (.int .i64 ((c.vapour.length : Nat) : Int))), (47, .v (.int .i64 0))], ⟨[(0, .blk 25 [.sl 0, .sl 1])], (still_validCurve_R c), []⟩⟩) [] S (by kernel_rfl) (by kernel_rfl) (by kernel_rfl) trivial ?_
      clear S; intro E a w S
      obtain ⟨lr1, e1, hp1⟩ := bind_some h
      clear h
      refine sym_block_last (G := fun a w => ∃ E, ∃ x1 : Unit, still_validCurve_k1 x1 = some res ∧ St ⟨W, noC, Go.Proofs.Try.f44.ntmps, [], allR, noρ, (envOf [(0, ⟨A0, c.liquid.length, c0, 1⟩), (1, ⟨A1, c.vapour.length, c1, 2⟩)]).sl, (envOf [(0, ⟨A0, c.liquid.length, c0, 1⟩), (1, ⟨A1, c.vapour.length, c1, 2⟩)]).x⟩ (⟨[], ⟨[], (still_validCurve_R c), []⟩⟩) E a w) ?_ ?_
      · refine wp_loop_rounds fuel ?_
        refine sym_rounds (F := fun n b1 => still_validCurve_l1 c n b1 = some lr1) (H := fun b1 => ⟨[(1, .own 0 0), (45, .sl 1), (46, .v (.int .i64 ((c.vapour.length : Nat) : Int))), (47, .v (.int .i64 b1))], ⟨[(0, .blk 25 [.sl 0, .sl 1])], (still_validCurve_R c), []⟩⟩) 0 (fun b hb => by have hb : none = some lr1 := hb; cases hb) ?_ _ _ _ _ e1 (St.cast (P := Go.Proofs.Try.prog) [] [] [1, 45, 46, 47] [0] [0, 1] _ [] (by kernel_rfl) trivial S)
        clear e1 S
        intro n b1 E a w h ih S
        rw [still_validCurve_l1] at h
        refine sym_seq lay_ok mixed [] [1, 45, 46, 47, 48] [0] (⟨[(1, .own 0 0), (45, .sl 1), (46, .v (.int .i64 ((c.vapour.length : Nat) : Int))), (47, .v (.int .i64 b1)), (48, .v (.bool (decide (b1 < ((c.vapour.length : Nat) : Int)))))], ⟨[(0, .blk 25 [.sl 0, .sl 1])], (still_validCurve_R c), []⟩⟩) [] S (by kernel_rfl) (by kernel_rfl) (by kernel_rfl) trivial ?_
        clear S; intro E a w S
        refine sym_if (b := decide (b1 < ((c.vapour.length : Nat) : Int))) S rfl (fun hb3 => ?_) (fun hb3 => ?_)
        · have h := bif_t hb3 h
          refine wp_skip ?_
          refine out_then_normal ?_
          refine wp_seq ?_
          refine wp_block ?_
          obtain ⟨g5, h⟩ := grd_some h
          refine sym_seq lay_ok mixed [(3, { g := 2 })] [1, 45, 46, 47, 5, 4] [0, 2] (⟨[(1, .own 0 0), (45, .sl 1), (46, .v (.int .i64 ((c.vapour.length : Nat) : Int))), (47, .v (.int .i64 b1)), (5, .own 2 0), (4, .v (.int .i64 b1))], ⟨[(0, .blk 25 [.sl 0, .sl 1]), (2, .blk 27 [.v (.int .i64 ((c.vapour.getD (Int.toNat b1) default).lo)), .v (.int .i64 ((c.vapour.getD (Int.toNat b1) default).hi))])], (still_validCurve_R c), []⟩⟩) [.idx b1 c.vapour.length, .idx b1 c.vapour.length] S (by kernel_rfl) (by kernel_rfl) (by kernel_rfl) ⟨g5, g5, trivial⟩ ?_
          clear S; intro E a w S
          obtain ⟨r1, e2, h⟩ := bind_some h
          obtain ⟨r2, e3, h⟩ := bind_some h
          obtain ⟨g6, h⟩ := grd_some h
          obtain ⟨r3, e4, h⟩ := bind_some h
          refine sym_seq lay_ok mixed [(0, { res := .agg [.v (.int .i64 r1.lo), .v (.int .i64 r1.hi)] }), (2, { res := .v (.bool r2) }), (5, { og := true }), (6, { og := true }), (7, { og := true }), (8, { og := true }), (9, { og := true }), (10, { og := true }), (11, { og := true }), (12, { og := true }), (13, { pk := true }), (15, { og := true }), (16, { og := true }), (17, { og := true }), (18, { og := true }), (19, { og := true }), (20, { og := true, res := .v (.bool r3) }), (21, { og := true }), (22, { og := true, pk := true }), (23, { pk := true })] [1, 45, 46, 47, 75] [0] (⟨[(1, .own 0 0), (45, .sl 1), (46, .v (.int .i64 ((c.vapour.length : Nat) : Int))), (47, .v (.int .i64 b1)), (75, .v (.bool (((!r2) || decide (((c.vapour.getD (Int.toNat b1) default).lo) < (c.liquid.getD (Int.toNat b1) default))) || (decide (0 < b1) && (!r3)))))], ⟨[(0, .blk 25 [.sl 0, .sl 1])], (still_validCurve_R c), []⟩⟩) [.call ⟨[], (still_validCurve_R c), []⟩ 45 [] (.agg [.v (.int .i64 r1.lo), .v (.int .i64 r1.hi)]), .call ⟨[], (still_validCurve_R c), []⟩ 46 [.agg [.v (.int .i64 r1.lo), .v (.int .i64 r1.hi)], .agg [.v (.int .i64 ((c.vapour.getD (Int.toNat b1) default).lo)), .v (.int .i64 ((c.vapour.getD (Int.toNat b1) default).hi))]] (.v (.bool r2)), .imp (!(!r2)) (!(!r2)), .imp (!(!r2)) (!(!r2)), .imp (!(!r2)) (!(!r2)), .imp (!(!r2)) (!(!r2)), .when (!(!r2)) (.idx b1 c.liquid.length), .imp (!(!r2)) (!(!r2)), .when (!(!r2)) (.idx b1 c.liquid.length), .imp (!(!r2)) (!(!r2)), .imp (!(!r2)) (!(!r2)), .imp (!(!r2)) (!(!r2)), .imp (!((!r2) || decide (((c.vapour.getD (Int.toNat b1) default).lo) < (c.liquid.getD (Int.toNat b1) default)))) (!((!r2) || decide (((c.vapour.getD (Int.toNat b1) default).lo) < (c.liquid.getD (Int.toNat b1) default)))), .imp (!((!r2) || decide (((c.vapour.getD (Int.toNat b1) default).lo) < (c.liquid.getD (Int.toNat b1) default)))) (!((!r2) || decide (((c.vapour.getD (Int.toNat b1) default).lo) < (c.liquid.getD (Int.toNat b1) default)))), .imp ((!((!r2) || decide (((c.vapour.getD (Int.toNat b1) default).lo) < (c.liquid.getD (Int.toNat b1) default)))) && decide (0 < b1)) ((!((!r2) || decide (((c.vapour.getD (Int.toNat b1) default).lo) < (c.liquid.getD (Int.toNat b1) default)))) && decide (0 < b1)), .imp ((!((!r2) || decide (((c.vapour.getD (Int.toNat b1) default).lo) < (c.liquid.getD (Int.toNat b1) default)))) && decide (0 < b1)) ((!((!r2) || decide (((c.vapour.getD (Int.toNat b1) default).lo) < (c.liquid.getD (Int.toNat b1) default)))) && decide (0 < b1)), .when ((!((!r2) || decide (((c.vapour.getD (Int.toNat b1) default).lo) < (c.liquid.getD (Int.toNat b1) default)))) && decide (0 < b1)) (.call ⟨[], (still_validCurve_R c), []⟩ 65 [.agg [.sl 0, .sl 1], .v (.int .i64 b1)] (.v (.bool r3))), .imp ((!((!r2) || decide (((c.vapour.getD (Int.toNat b1) default).lo) < (c.liquid.getD (Int.toNat b1) default)))) && decide (0 < b1)) ((!((!r2) || decide (((c.vapour.getD (Int.toNat b1) default).lo) < (c.liquid.getD (Int.toNat b1) default)))) && decide (0 < b1)), .imp (!((!r2) || decide (((c.vapour.getD (Int.toNat b1) default).lo) < (c.liquid.getD (Int.toNat b1) default)))) (!((!r2) || decide (((c.vapour.getD (Int.toNat b1) default).lo) < (c.liquid.getD (Int.toNat b1) default)))), .when (!((!r2) || decide (((c.vapour.getD (Int.toNat b1) default).lo) < (c.liquid.getD (Int.toNat b1) default)))) (.imp (decide (0 < b1)) ((!((!r2) || decide (((c.vapour.getD (Int.toNat b1) default).lo) < (c.liquid.getD (Int.toNat b1) default)))) && decide (0 < b1))), .imp (!((!r2) || decide (((c.vapour.getD (Int.toNat b1) default).lo) < (c.liquid.getD (Int.toNat b1) default)))) (!((!r2) || decide (((c.vapour.getD (Int.toNat b1) default).lo) < (c.liquid.getD (Int.toNat b1) default))))] S (by kernel_rfl) (by kernel_rfl) (by kernel_rfl) (by exact ⟨⟨enters_45, fun _ W _ _ => still_strengths_ok  W r1 e2⟩, ⟨enters_46, fun _ W _ _ => still_span_covers_ok r1 (c.vapour.getD (Int.toNat b1) default) W r2 e3⟩, fun h => h, fun h => h, fun h => h, fun h => h, fun hW => (g6 hW), fun h => h, fun hW => (g6 hW), fun h => h, fun h => h, fun h => h, fun h => h, fun h => h, fun h => h, fun h => h, fun hW => ⟨enters_65, fun E W _ hm => by obtain ⟨A0, c0, q0, l0, s0, _⟩ := Mem.sl hm (s := 0) rfl; obtain ⟨A1, c1, q1, l1, s1, _⟩ := Mem.sl hm (s := 1) rfl; simp only [SV.vals, SV.val, q0, q1]; exact still_rises_ok c b1 W A0 c0 l0 s0 A1 c1 l1 s1 r3 (bif_t hW e4)⟩, fun h => h, fun h => h, fun hW => (by intro h; simp_all), fun h => h, trivial⟩) ?_
          clear S; intro E a w S
          refine sym_if_last (b := (((!r2) || decide (((c.vapour.getD (Int.toNat b1) default).lo) < (c.liquid.getD (Int.toNat b1) default))) || (decide (0 < b1) && (!r3)))) S rfl (fun hb4 => ?_) (fun hb4 => ?_)
          · have h := bif_t hb4 h
            refine sym_seq lay_ok mixed [] [2] [] (⟨[(2, .v (.bool false))], ⟨[], (still_validCurve_R c), []⟩⟩) [] S (by kernel_rfl) (by kernel_rfl) (by kernel_rfl) trivial ?_
            clear S; intro E a w S
            refine wp_ret ?_
            refine out_block_ret ?_
            refine out_then_ret ?_
            refine out_then_ret ?_
            refine out_block_ret ?_
            refine out_then_ret ?_
            refine out_then_ret ?_
            have hr := Option.some.inj h
            subst hr
            have hr := Option.some.inj hp1
            subst hr
            exact sym_ret lay_ok [.v (.bool false)] (by kernel_rfl) rfl S ⟨rfl, S.below rfl⟩
          · have h := bif_f hb4 h
            refine wp_skip ?_
            refine out_block_normal ?_
            refine out_then_normal ?_
            obtain ⟨g7, h⟩ := grd_some h
            refine sym_last lay_ok mixed [] [1, 45, 46, 47] [0] (⟨[(1, .own 0 0), (45, .sl 1), (46, .v (.int .i64 ((c.vapour.length : Nat) : Int))), (47, .v (.int .i64 (b1 + 1)))], ⟨[(0, .blk 25 [.sl 0, .sl 1])], (still_validCurve_R c), []⟩⟩) [.rng .i64 (b1 + 1)] S (by kernel_rfl) (by kernel_rfl) (by kernel_rfl) ⟨rngI64 g7, trivial⟩ ?_
            clear S; intro E a w S
            refine out_then_normal ?_
            exact ih (b1 + 1) _ _ _ h (St.cast (P := Go.Proofs.Try.prog) [] [] [1, 45, 46, 47] [0] [0, 1] _ [] (by kernel_rfl) trivial S)
        · have h := bif_f hb3 h
          refine wp_exit ?_
          refine out_then_exit ?_
          refine out_then_exit ?_
          refine out_block_here ?_
          refine out_then_normal ?_
          have hr := Option.some.inj h
          subst hr
          exact ⟨_, (), hp1, St.cast (P := Go.Proofs.Try.prog) [] [] [] [] [0, 1] _ [] (by kernel_rfl) trivial S⟩
      clear e1 S
      rintro a w ⟨E, x1, h, S⟩
      rw [still_validCurve_k1] at h
      refine out_then_normal ?_
      refine sym_seq lay_ok mixed [] [2] [] (⟨[(2, .v (.bool true))], ⟨[], (still_validCurve_R c), []⟩⟩) [] S (by kernel_rfl) (by kernel_rfl) (by kernel_rfl) trivial ?_
      clear S; intro E a w S
      refine wp_ret ?_
      have h := Option.some.inj h
      subst h
      exact sym_ret lay_ok [.v (.bool true)] (by kernel_rfl) rfl S ⟨rfl, S.below rfl⟩
def still_Vapour_R (c : MCurve) : List (Nat × Q) := [(0, ⟨c.liquid.length, 1, fun i => [.int .i64 (c.liquid.getD i default)]⟩), (1, ⟨c.vapour.length, 2, fun i => [.int .i64 ((c.vapour.getD i default).lo), .int .i64 ((c.vapour.getD i default).hi)]⟩)]
def still_Vapour (fuel : Nat) (c : MCurve) (strength : MSpan) : Option (MSpan × Int) :=
(still_validCurve fuel c).bind fun (r1 : Bool) =>
((bif (!(!r1)) then still_strengths else some default)).bind fun (r2 : MSpan) =>
((bif (!(!r1)) then still_span_covers r2 strength else some default)).bind fun (r3 : Bool) =>
(bif ((!r1) || (!r3)) then
(some ((MSpan.mk 0 0), 1))
else
((still_lines_vapour fuel c strength).bind fun (r4 : MSpan) =>
some (r4, 0)))
set_option maxRecDepth 100000 in
set_option maxHeartbeats 4000000 in
theorem still_Vapour_ok (fuel : Nat) (c : MCurve) (strength : MSpan) (W : World) (A0 : Option Addr) (c0 : Nat) (h0 : c.liquid.length ≤ c0) (s0 : SlAt W A0 c.liquid.length 1 fun i => [.int .i64 (c.liquid.getD i default)]) (A1 : Option Addr) (c1 : Nat) (h1 : c.vapour.length ≤ c1) (s1 : SlAt W A1 c.vapour.length 2 fun i => [.int .i64 ((c.vapour.getD i default).lo), .int .i64 ((c.vapour.getD i default).hi)]) (res : MSpan × Int) (h : still_Vapour fuel c strength = some res) :
    Calls Go.Proofs.Try.prog 18 #[.agg #[.slice A0 c.liquid.length c0, .slice A1 c.vapour.length c1], .agg #[.int .i64 strength.lo, .int .i64 strength.hi]] W fun e w' => e = .returned (.tuple #[.agg #[.int .i64 res.1.lo, .int .i64 res.1.hi], .int .i64 res.2]) ∧ Below W.heap.size W w' := by
  refine sym_call (f := 18) (fn := Go.Proofs.Try.f18) (c := Go.Proofs.Try.f18.body.get rfl) Go.Proofs.Try.func18 rfl [.agg [.sl 0, .sl 1], .agg [.v (.int .i64 strength.lo), .v (.int .i64 strength.hi)]] (still_Vapour_R c) [] (envOf [(0, ⟨A0, c.liquid.length, c0, 1⟩), (1, ⟨A1, c.vapour.length, c1, 2⟩)]) allR (fun _ _ => rfl) (by kernel_rfl) (envOf_one trivial) ⟨s0.rd h0, s1.rd h1, trivial⟩ (AllRR.all _ _) trivial fun E a w S => ?_
  rw [still_Vapour] at h
  refine sym_seq lay_ok mixed [(0, { g := 0 }), (1, { g := 1 }), (2, { g := 2 })] [2, 3, 4] [0, 1, 2] (⟨[(2, .own 0 0), (3, .own 1 0), (4, .own 2 0)], ⟨[(0, .blk 25 [.sl 0, .sl 1]), (1, .blk 27 [.v (.int .i64 strength.lo), .v (.int .i64 strength.hi)]), (2, .blk 27 [.v (.int .i64 0), .v (.int .i64 0)])], (still_Vapour_R c), []⟩⟩) [] S (by kernel_rfl) (by kernel_rfl) (by kernel_rfl) trivial ?_
  clear S; intro E a w S
  refine wp_seq ?_
  obtain ⟨r1, e1, h⟩ := bind_some h
  obtain ⟨r2, e2, h⟩ := bind_some h
  obtain ⟨r3, e3, h⟩ := bind_some h
  refine sym_seq lay_ok mixed [(1, { res := .v (.bool r1) }), (4, { og := true, res := .agg [.v (.int .i64 r2.lo), .v (.int .i64 r2.hi)] }), (5, { og := true }), (6, { og := true, res := .v (.bool r3) }), (7, { og := true }), (8, { pk := true })] [2, 3, 4, 14] [0, 1, 2] (⟨[(2, .own 0 0), (3, .own 1 0), (4, .own 2 0), (14, .v (.bool ((!r1) || (!r3))))], ⟨[(0, .blk 25 [.sl 0, .sl 1]), (1, .blk 27 [.v (.int .i64 strength.lo), .v (.int .i64 strength.hi)]), (2, .blk 27 [.v (.int .i64 0), .v (.int .i64 0)])], (still_Vapour_R c), []⟩⟩) [.call ⟨[], (still_Vapour_R c), []⟩ 44 [.agg [.sl 0, .sl 1]] (.v (.bool r1)), .when (!(!r1)) (.call ⟨[], (still_Vapour_R c), []⟩ 45 [] (.agg [.v (.int .i64 r2.lo), .v (.int .i64 r2.hi)])), .imp (!(!r1)) (!(!r1)), .imp (!(!r1)) (!(!r1)), .when (!(!r1)) (.call ⟨[], (still_Vapour_R c), []⟩ 46 [.agg [.v (.int .i64 r2.lo), .v (.int .i64 r2.hi)], .agg [.v (.int .i64 strength.lo), .v (.int .i64 strength.hi)]] (.v (.bool r3))), .imp (!(!r1)) (!(!r1)), .imp (!(!r1)) (!(!r1))] S (by kernel_rfl) (by kernel_rfl) (by kernel_rfl) ⟨⟨enters_44, fun E W _ hm => by obtain ⟨A0, c0, q0, l0, s0, _⟩ := Mem.sl hm (s := 0) rfl; obtain ⟨A1, c1, q1, l1, s1, _⟩ := Mem.sl hm (s := 1) rfl; simp only [SV.vals, SV.val, q0, q1]; exact still_validCurve_ok fuel c W A0 c0 l0 s0 A1 c1 l1 s1 r1 e1⟩, fun hW => ⟨enters_45, fun _ W _ _ => still_strengths_ok  W r2 (bif_t hW e2)⟩, fun h => h, fun h => h, fun hW => ⟨enters_46, fun _ W _ _ => still_span_covers_ok r2 strength W r3 (bif_t hW e3)⟩, fun h => h, fun h => h, trivial⟩ ?_
  clear S; intro E a w S
  refine sym_if_last (b := ((!r1) || (!r3))) S rfl (fun hb1 => ?_) (fun hb1 => ?_)
  · have h := bif_t hb1 h
    refine sym_seq lay_ok mixed [] [4, 5] [2] (⟨[(4, .own 2 0), (5, .v (.int .i64 1))], ⟨[(2, .blk 27 [.v (.int .i64 0), .v (.int .i64 0)])], (still_Vapour_R c), []⟩⟩) [] S (by kernel_rfl) (by kernel_rfl) (by kernel_rfl) trivial ?_
    clear S; intro E a w S
    refine wp_ret ?_
    refine out_then_ret ?_
    have h := Option.some.inj h
    subst h
    exact sym_ret lay_ok [.agg [.v (.int .i64 0), .v (.int .i64 0)], .v (.int .i64 1)] (by kernel_rfl) rfl S ⟨rfl, S.below rfl⟩
  · have h := bif_f hb1 h
    refine wp_skip ?_
    refine out_then_normal ?_
    obtain ⟨r4, e4, h⟩ := bind_some h
    refine sym_seq lay_ok mixed [(1, { g := 3, res := .agg [.fn 74 [.ltr 3 0, .ltr 3 1, .ltr 3 2], .fn 74 [.ltr 3 3, .ltr 3 4, .ltr 3 5]], hx := some (Lines c) }), (3, { fp := [3], res := .agg [.v (.int .i64 r4.lo), .v (.int .i64 r4.hi)] })] [4, 5] [2] (⟨[(4, .own 2 0), (5, .v (.int .i64 0))], ⟨[(2, .blk 27 [.v (.int .i64 r4.lo), .v (.int .i64 r4.hi)])], (still_Vapour_R c), []⟩⟩) [.callx ⟨[], (still_Vapour_R c), []⟩ 3 47 [.agg [.sl 0, .sl 1]] (.agg [.fn 74 [.ltr 3 0, .ltr 3 1, .ltr 3 2], .fn 74 [.ltr 3 3, .ltr 3 4, .ltr 3 5]]) (Lines c), .call ⟨[(3, .held (Lines c))], (still_Vapour_R c), []⟩ 48 [.agg [.fn 74 [.ltr 3 0, .ltr 3 1, .ltr 3 2], .fn 74 [.ltr 3 3, .ltr 3 4, .ltr 3 5]], .agg [.v (.int .i64 strength.lo), .v (.int .i64 strength.hi)]] (.agg [.v (.int .i64 r4.lo), .v (.int .i64 r4.hi)])] S (by kernel_rfl) (by kernel_rfl) (by kernel_rfl) ⟨⟨enters_47, fun E W R hm => by obtain ⟨A0, c0, q0, l0, s0, r0⟩ := Mem.sl hm (s := 0) rfl; obtain ⟨A1, c1, q1, l1, s1, r1⟩ := Mem.sl hm (s := 1) rfl; simp only [SV.vals, SV.val, q0, q1, Env.updX_same]; exact linesOf_ok c W R A0 c0 l0 s0 r0 A1 c1 l1 s1 r1⟩, ⟨enters_48, fun E W _ hm => still_lines_vapour_ok fuel c strength W _ (hm.one 3) ((hm.held 3 _ rfl).mono fun _ _ _ => trivial) r4 e4⟩, trivial⟩ ?_
    clear S; intro E a w S
    refine wp_ret ?_
    have h := Option.some.inj h
    subst h
    exact sym_ret lay_ok [.agg [.v (.int .i64 r4.lo), .v (.int .i64 r4.hi)], .v (.int .i64 0)] (by kernel_rfl) rfl S ⟨rfl, S.below rfl⟩
def still_Plates_R (c : MCurve) : List (Nat × Q) := [(0, ⟨c.liquid.length, 1, fun i => [.int .i64 (c.liquid.getD i default)]⟩), (1, ⟨c.vapour.length, 2, fun i => [.int .i64 ((c.vapour.getD i default).lo), .int .i64 ((c.vapour.getD i default).hi)]⟩)]
def still_Plates (fuel : Nat) (c : MCurve) (from' : Int) (to' : Int) : Option (Int × Int × Int) :=
(still_validCurve fuel c).bind fun (r1 : Bool) =>
(bif (!r1) then
(some (0, 0, 1))
else
((still_strengths).bind fun (r2 : MSpan) =>
(still_span_covers r2 (MSpan.mk from' from')).bind fun (r3 : Bool) =>
((bif (!(!r3)) then still_strengths else some default)).bind fun (r4 : MSpan) =>
((bif (!(!r3)) then still_span_covers r4 (MSpan.mk to' to') else some default)).bind fun (r5 : Bool) =>
(bif ((!r3) || (!r5)) then
(some (0, 0, 2))
else
((platesHigh fuel c from' to').bind fun (r6 : Int) =>
(platesLow fuel c from' to').bind fun (r7 : Int) =>
(bif (r6 == (-1)) then
(some (0, 0, 12))
else
(some (r6, r7, 0)))))))
set_option maxRecDepth 100000 in
set_option maxHeartbeats 4000000 in
theorem still_Plates_ok (fuel : Nat) (c : MCurve) (from' : Int) (to' : Int) (W : World) (A0 : Option Addr) (c0 : Nat) (h0 : c.liquid.length ≤ c0) (s0 : SlAt W A0 c.liquid.length 1 fun i => [.int .i64 (c.liquid.getD i default)]) (A1 : Option Addr) (c1 : Nat) (h1 : c.vapour.length ≤ c1) (s1 : SlAt W A1 c.vapour.length 2 fun i => [.int .i64 ((c.vapour.getD i default).lo), .int .i64 ((c.vapour.getD i default).hi)]) (res : Int × Int × Int) (h : still_Plates fuel c from' to' = some res) :
    Calls Go.Proofs.Try.prog 36 #[.agg #[.slice A0 c.liquid.length c0, .slice A1 c.vapour.length c1], .int .i64 from', .int .i64 to'] W fun e w' => e = .returned (.tuple #[.int .i64 res.1, .int .i64 res.2.1, .int .i64 res.2.2]) ∧ Below W.heap.size W w' := by
  refine sym_call (f := 36) (fn := Go.Proofs.Try.f36) (c := Go.Proofs.Try.f36.body.get rfl) Go.Proofs.Try.func36 rfl [.agg [.sl 0, .sl 1], .v (.int .i64 from'), .v (.int .i64 to')] (still_Plates_R c) [] (envOf [(0, ⟨A0, c.liquid.length, c0, 1⟩), (1, ⟨A1, c.vapour.length, c1, 2⟩)]) allR (fun _ _ => rfl) (by kernel_rfl) (envOf_one trivial) ⟨s0.rd h0, s1.rd h1, trivial⟩ (AllRR.all _ _) trivial fun E a w S => ?_
  rw [still_Plates] at h
  refine sym_seq lay_ok mixed [(0, { g := 0 })] [1, 2, 3] [0] (⟨[(1, .v (.int .i64 from')), (2, .v (.int .i64 to')), (3, .own 0 0)], ⟨[(0, .blk 25 [.sl 0, .sl 1])], (still_Plates_R c), []⟩⟩) [] S (by kernel_rfl) (by kernel_rfl) (by kernel_rfl) trivial ?_
  clear S; intro E a w S
  refine wp_seq ?_
  obtain ⟨r1, e1, h⟩ := bind_some h
  refine sym_seq lay_ok mixed [(1, { res := .v (.bool r1) })] [1, 2, 3, 12] [0] (⟨[(1, .v (.int .i64 from')), (2, .v (.int .i64 to')), (3, .own 0 0), (12, .v (.bool (!r1)))], ⟨[(0, .blk 25 [.sl 0, .sl 1])], (still_Plates_R c), []⟩⟩) [.call ⟨[], (still_Plates_R c), []⟩ 44 [.agg [.sl 0, .sl 1]] (.v (.bool r1))] S (by kernel_rfl) (by kernel_rfl) (by kernel_rfl) ⟨⟨enters_44, fun E W _ hm => by obtain ⟨A0, c0, q0, l0, s0, _⟩ := Mem.sl hm (s := 0) rfl; obtain ⟨A1, c1, q1, l1, s1, _⟩ := Mem.sl hm (s := 1) rfl; simp only [SV.vals, SV.val, q0, q1]; exact still_validCurve_ok fuel c W A0 c0 l0 s0 A1 c1 l1 s1 r1 e1⟩, trivial⟩ ?_
  clear S; intro E a w S
  refine sym_if_last (b := (!r1)) S rfl (fun hb1 => ?_) (fun hb1 => ?_)
  · have h := bif_t hb1 h
    refine sym_seq lay_ok mixed [] [6, 7, 8] [] (⟨[(6, .v (.int .i64 0)), (7, .v (.int .i64 0)), (8, .v (.int .i64 1))], ⟨[], (still_Plates_R c), []⟩⟩) [] S (by kernel_rfl) (by kernel_rfl) (by kernel_rfl) trivial ?_
    clear S; intro E a w S
    refine wp_ret ?_
    refine out_then_ret ?_
    have h := Option.some.inj h
    subst h
    exact sym_ret lay_ok [.v (.int .i64 0), .v (.int .i64 0), .v (.int .i64 1)] (by kernel_rfl) rfl S ⟨rfl, S.below rfl⟩
  · have h := bif_f hb1 h
    refine wp_skip ?_
    refine out_then_normal ?_
    refine wp_seq ?_
    obtain ⟨r2, e2, h⟩ := bind_some h
    obtain ⟨r3, e3, h⟩ := bind_some h
    obtain ⟨r4, e4, h⟩ := bind_some h
    obtain ⟨r5, e5, h⟩ := bind_some h
    refine sym_seq lay_ok mixed [(0, { res := .agg [.v (.int .i64 r2.lo), .v (.int .i64 r2.hi)] }), (4, { res := .v (.bool r3) }), (7, { og := true, res := .agg [.v (.int .i64 r4.lo), .v (.int .i64 r4.hi)] }), (8, { og := true }), (9, { og := true }), (10, { og := true }), (11, { og := true, res := .v (.bool r5) }), (12, { og := true }), (13, { pk := true })] [1, 2, 3, 26] [0] (⟨[(1, .v (.int .i64 from')), (2, .v (.int .i64 to')), (3, .own 0 0), (26, .v (.bool ((!r3) || (!r5))))], ⟨[(0, .blk 25 [.sl 0, .sl 1])], (still_Plates_R c), []⟩⟩) [.call ⟨[], (still_Plates_R c), []⟩ 45 [] (.agg [.v (.int .i64 r2.lo), .v (.int .i64 r2.hi)]), .call ⟨[], (still_Plates_R c), []⟩ 46 [.agg [.v (.int .i64 r2.lo), .v (.int .i64 r2.hi)], .agg [.v (.int .i64 from'), .v (.int .i64 from')]] (.v (.bool r3)), .when (!(!r3)) (.call ⟨[], (still_Plates_R c), []⟩ 45 [] (.agg [.v (.int .i64 r4.lo), .v (.int .i64 r4.hi)])), .imp (!(!r3)) (!(!r3)), .imp (!(!r3)) (!(!r3)), .imp (!(!r3)) (!(!r3)), .imp (!(!r3)) (!(!r3)), .when (!(!r3)) (.call ⟨[], (still_Plates_R c), []⟩ 46 [.agg [.v (.int .i64 r4.lo), .v (.int .i64 r4.hi)], .agg [.v (.int .i64 to'), .v (.int .i64 to')]] (.v (.bool r5))), .imp (!(!r3)) (!(!r3)), .imp (!(!r3)) (!(!r3))] S (by kernel_rfl) (by kernel_rfl) (by kernel_rfl) ⟨⟨enters_45, fun _ W _ _ => still_strengths_ok  W r2 e2⟩, ⟨enters_46, fun _ W _ _ => still_span_covers_ok r2 (MSpan.mk from' from') W r3 e3⟩, fun hW => ⟨enters_45, fun _ W _ _ => still_strengths_ok  W r4 (bif_t hW e4)⟩, fun h => h, fun h => h, fun h => h, fun h => h, fun hW => ⟨enters_46, fun _ W _ _ => still_span_covers_ok r4 (MSpan.mk to' to') W r5 (bif_t hW e5)⟩, fun h => h, fun h => h, trivial⟩ ?_
    clear S; intro E a w S
    refine sym_if_last (b := ((!r3) || (!r5))) S rfl (fun hb2 => ?_) (fun hb2 => ?_)
    · have h := bif_t hb2 h
      refine sym_seq lay_ok mixed [] [6, 7, 8] [] (⟨[(6, .v (.int .i64 0)), (7, .v (.int .i64 0)), (8, .v (.int .i64 2))], ⟨[], (still_Plates_R c), []⟩⟩) [] S (by kernel_rfl) (by kernel_rfl) (by kernel_rfl) trivial ?_
      clear S; intro E a w S
      refine wp_ret ?_
      refine out_then_ret ?_
      have h := Option.some.inj h
      subst h
      exact sym_ret lay_ok [.v (.int .i64 0), .v (.int .i64 0), .v (.int .i64 2)] (by kernel_rfl) rfl S ⟨rfl, S.below rfl⟩
    · have h := bif_f hb2 h
      refine wp_skip ?_
      refine out_then_normal ?_
      refine sym_seq lay_ok mixed [(1, { g := 1, res := .agg [.fn 74 [.ltr 1 0, .ltr 1 1, .ltr 1 2], .fn 74 [.ltr 1 3, .ltr 1 4, .ltr 1 5]], hx := some (Lines c) }), (2, { g := 2 })] [1, 2, 9] [1, 2] (⟨[(1, .v (.int .i64 from')), (2, .v (.int .i64 to')), (9, .own 2 0)], ⟨[(1, .held (Lines c)), (2, .blk 81 [.fn 74 [.ltr 1 0, .ltr 1 1, .ltr 1 2], .fn 74 [.ltr 1 3, .ltr 1 4, .ltr 1 5]])], (still_Plates_R c), []⟩⟩) [.callx ⟨[], (still_Plates_R c), []⟩ 1 47 [.agg [.sl 0, .sl 1]] (.agg [.fn 74 [.ltr 1 0, .ltr 1 1, .ltr 1 2], .fn 74 [.ltr 1 3, .ltr 1 4, .ltr 1 5]]) (Lines c)] S (by kernel_rfl) (by kernel_rfl) (by kernel_rfl) ⟨⟨enters_47, fun E W R hm => by obtain ⟨A0, c0, q0, l0, s0, r0⟩ := Mem.sl hm (s := 0) rfl; obtain ⟨A1, c1, q1, l1, s1, r1⟩ := Mem.sl hm (s := 1) rfl; simp only [SV.vals, SV.val, q0, q1, Env.updX_same]; exact linesOf_ok c W R A0 c0 l0 s0 r0 A1 c1 l1 s1 r1⟩, trivial⟩ ?_
      clear S; intro E a w S
      obtain ⟨r6, e6, h⟩ := bind_some h
      obtain ⟨r7, e7, h⟩ := bind_some h
      refine sym_seq lay_ok mixed [(4, { fp := [1], res := .v (.int .i64 r6) }), (9, { fp := [1], res := .v (.int .i64 r7) })] [6, 7] [] (⟨[(6, .v (.int .i64 r6)), (7, .v (.int .i64 r7))], ⟨[], (still_Plates_R c), []⟩⟩) [.call ⟨[(1, .held (Lines c))], (still_Plates_R c), []⟩ 63 [.fn 74 [.ltr 1 3, .ltr 1 4, .ltr 1 5], .v (.int .i64 from'), .v (.int .i64 to')] (.v (.int .i64 r6)), .call ⟨[(1, .held (Lines c))], (still_Plates_R c), []⟩ 63 [.fn 74 [.ltr 1 0, .ltr 1 1, .ltr 1 2], .v (.int .i64 from'), .v (.int .i64 to')] (.v (.int .i64 r7))] S (by kernel_rfl) (by kernel_rfl) (by kernel_rfl) ⟨⟨enters_63, fun E W _ hm => platesHigh_ok fuel c from' to' W (fun i => E.x 1 (i + 3)) (fun i => hm.one 1 _) (((hm.held 1 _ rfl).imp fun w h => h.2).mono fun _ _ _ => trivial) r6 e6⟩, ⟨enters_63, fun E W _ hm => platesLow_ok fuel c from' to' W (fun i => E.x 1 (i + 0)) (fun i => hm.one 1 _) (((hm.held 1 _ rfl).imp fun w h => h.1).mono fun _ _ _ => trivial) r7 e7⟩, trivial⟩ ?_
      clear S; intro E a w S
      refine wp_seq ?_
      refine sym_seq lay_ok mixed [] [6, 7, 40] [] (⟨[(6, .v (.int .i64 r6)), (7, .v (.int .i64 r7)), (40, .v (.bool (r6 == (-1))))], ⟨[], (still_Plates_R c), []⟩⟩) [] S (by kernel_rfl) (by kernel_rfl) (by kernel_rfl) trivial ?_
      clear S; intro E a w S
      refine sym_if_last (b := (r6 == (-1))) S rfl (fun hb3 => ?_) (fun hb3 => ?_)
      · have h := bif_t hb3 h
        refine sym_seq lay_ok mixed [] [6, 7, 8] [] (⟨[(6, .v (.int .i64 0)), (7, .v (.int .i64 0)), (8, .v (.int .i64 12))], ⟨[], (still_Plates_R c), []⟩⟩) [] S (by kernel_rfl) (by kernel_rfl) (by kernel_rfl) trivial ?_
        clear S; intro E a w S
        refine wp_ret ?_
        refine out_then_ret ?_
        have h := Option.some.inj h
        subst h
        exact sym_ret lay_ok [.v (.int .i64 0), .v (.int .i64 0), .v (.int .i64 12)] (by kernel_rfl) rfl S ⟨rfl, S.below rfl⟩
      · have h := bif_f hb3 h
        refine wp_skip ?_
        refine out_then_normal ?_
        refine sym_seq lay_ok mixed [] [6, 7, 8] [] (⟨[(6, .v (.int .i64 r6)), (7, .v (.int .i64 r7)), (8, .v (.int .i64 0))], ⟨[], (still_Plates_R c), []⟩⟩) [] S (by kernel_rfl) (by kernel_rfl) (by kernel_rfl) trivial ?_
        clear S; intro E a w S
        refine wp_ret ?_
        have h := Option.some.inj h
        subst h
        exact sym_ret lay_ok [.v (.int .i64 r6), .v (.int .i64 r7), .v (.int .i64 0)] (by kernel_rfl) rfl S ⟨rfl, S.below rfl⟩
end Go.Proofs.Ytnfahoomoelmcaa
