/- Models and walks, printed by program. -/
import Derived.Test.YtnfahoomoelmcaaSyRun
namespace Go.Proofs.Ytnfahoomoelmcaa
open Go.RowKit Go.Proofs.Try

def wormtublaw04_alive (fuel : Nat)  : Option Bool :=
(wormtublaw04_sample).bind fun (r1 : (MCurve × MPot)) =>
(runOf fuel r1.1 (MPot.mk r1.2.volume (MSpan.mk r1.2.alcohol.lo r1.2.alcohol.hi)) ([1000, 1000])).bind fun (r2 : (List MDrawn × MPot × Int)) =>
(still_Cycle fuel (MSpan.mk 1000 1000) (MSpan.mk 100 250) 0 400).bind fun (r3 : (Int × Int × Int)) =>
grd (((((r2.1.length : Nat) : Int) == 2) = true → ((0 : Int) ≤ 0 ∧ (0 : Int) < ((r2.1.length : Nat) : Int))) ∧ (((((r2.1.length : Nat) : Int) == 2) && ((((r2.1.getD (Int.toNat 0) default).amount) == 1000) && (((((r2.1.getD (Int.toNat 0) default).alcohol).lo) == 266) && ((((r2.1.getD (Int.toNat 0) default).alcohol).hi) == 520)))) = true → ((0 : Int) ≤ 1 ∧ (1 : Int) < ((r2.1.length : Nat) : Int)))) <|
some ((((((((((r2.1.length : Nat) : Int) == 2) && ((((r2.1.getD (Int.toNat 0) default).amount) == 1000) && (((((r2.1.getD (Int.toNat 0) default).alcohol).lo) == 266) && ((((r2.1.getD (Int.toNat 0) default).alcohol).hi) == 520)))) && ((((r2.1.getD (Int.toNat 1) default).amount) == 1000) && (((((r2.1.getD (Int.toNat 1) default).alcohol).lo) == 34) && ((((r2.1.getD (Int.toNat 1) default).alcohol).hi) == 425)))) && ((r2.2.1.volume == 8000) && ((r2.2.1.alcohol.lo == 55) && (r2.2.1.alcohol.hi == 653)))) && (r2.2.2 == 0)) && (r3.1 == 334)) && (r3.2.1 == (-1))) && (r3.2.2 == 0))
set_option maxRecDepth 100000 in
set_option maxHeartbeats 4000000 in
theorem wormtublaw04_alive_ok (fuel : Nat)  (W : World)  (res : Bool) (h : wormtublaw04_alive fuel  = some res) :
    Calls Go.Proofs.Try.prog 17 #[] W fun e w' => e = .returned (.bool res) ∧ Below W.heap.size W w' := by
  refine sym_call (f := 17) (fn := Go.Proofs.Try.f17) (c := Go.Proofs.Try.f17.body.get rfl) Go.Proofs.Try.func17 rfl [] [] [] (envOf []) allR (fun _ _ => rfl) (by kernel_rfl) (envOf_one trivial) trivial (AllRR.all _ _) trivial fun E a w S => ?_
  rw [wormtublaw04_alive] at h
  refine sym_seq lay_ok mixed [] [] [] (⟨[], ⟨[], [], []⟩⟩) [] S (by kernel_rfl) (by kernel_rfl) (by kernel_rfl) trivial ?_
  clear S; intro E a w S
  obtain ⟨r1, e1, h⟩ := bind_some h
  refine sym_seq lay_ok mixed [(0, { g := 0, res := .tup [.agg [.ltr 0 0, .ltr 0 1], .agg [.v (.int .i64 r1.2.volume), .v (.int .i64 r1.2.alcohol.lo), .v (.int .i64 r1.2.alcohol.hi)]], hx := some (SlicesAre 0 [⟨r1.1.liquid.length, 1, fun i => [.int .i64 (r1.1.liquid.getD i default)]⟩, ⟨r1.1.vapour.length, 2, fun i => [.int .i64 ((r1.1.vapour.getD i default).lo), .int .i64 ((r1.1.vapour.getD i default).hi)]⟩]) }), (4, { g := 1 }), (5, { g := 2 })] [1, 2] [0, 1, 2] (⟨[(1, .own 1 0), (2, .own 2 0)], ⟨[(0, .held (SlicesAre 0 [⟨r1.1.liquid.length, 1, fun i => [.int .i64 (r1.1.liquid.getD i default)]⟩, ⟨r1.1.vapour.length, 2, fun i => [.int .i64 ((r1.1.vapour.getD i default).lo), .int .i64 ((r1.1.vapour.getD i default).hi)]⟩])), (1, .blk 25 [.ltr 0 0, .ltr 0 1]), (2, .blk 29 [.v (.int .i64 r1.2.volume), .v (.int .i64 r1.2.alcohol.lo), .v (.int .i64 r1.2.alcohol.hi)])], [], []⟩⟩) [.callx ⟨[], [], []⟩ 0 38 [] (.tup [.agg [.ltr 0 0, .ltr 0 1], .agg [.v (.int .i64 r1.2.volume), .v (.int .i64 r1.2.alcohol.lo), .v (.int .i64 r1.2.alcohol.hi)]]) (SlicesAre 0 [⟨r1.1.liquid.length, 1, fun i => [.int .i64 (r1.1.liquid.getD i default)]⟩, ⟨r1.1.vapour.length, 2, fun i => [.int .i64 ((r1.1.vapour.getD i default).lo), .int .i64 ((r1.1.vapour.getD i default).hi)]⟩])] S (by kernel_rfl) (by kernel_rfl) (by kernel_rfl) ⟨⟨enters_38, fun _ W _ _ => ((wormtublaw04_sample_ok  W r1 e1).mono fun e w' hx => by obtain ⟨v, h1, h2, h3, h4⟩ := hx; exact ⟨v, h1, h2, h3, h4.mono fun _ _ h => .inl h⟩)⟩, trivial⟩ ?_
  clear S; intro E a w S
  obtain ⟨E, S⟩ := St.read 0 0 1000 ⟨r1.1.liquid.length, 1, fun i => [.int .i64 (r1.1.liquid.getD i default)]⟩ (⟨[(1, .own 1 0), (2, .own 2 0)], ⟨[(0, .held (SlicesAre 0 [⟨r1.1.liquid.length, 1, fun i => [.int .i64 (r1.1.liquid.getD i default)]⟩, ⟨r1.1.vapour.length, 2, fun i => [.int .i64 ((r1.1.vapour.getD i default).lo), .int .i64 ((r1.1.vapour.getD i default).hi)]⟩])), (1, .blk 25 [.sl 1000, .ltr 0 1]), (2, .blk 29 [.v (.int .i64 r1.2.volume), .v (.int .i64 r1.2.alcohol.lo), .v (.int .i64 r1.2.alcohol.hi)])], ((1000, ⟨r1.1.liquid.length, 1, fun i => [.int .i64 (r1.1.liquid.getD i default)]⟩) :: []), []⟩⟩) rfl (fun v w h => h.1) (by intro _ h; cases h) (by kernel_rfl) (by kernel_rfl) S
  obtain ⟨E, S⟩ := St.read 0 1 1001 ⟨r1.1.vapour.length, 2, fun i => [.int .i64 ((r1.1.vapour.getD i default).lo), .int .i64 ((r1.1.vapour.getD i default).hi)]⟩ (⟨[(1, .own 1 0), (2, .own 2 0)], ⟨[(0, .held (SlicesAre 0 [⟨r1.1.liquid.length, 1, fun i => [.int .i64 (r1.1.liquid.getD i default)]⟩, ⟨r1.1.vapour.length, 2, fun i => [.int .i64 ((r1.1.vapour.getD i default).lo), .int .i64 ((r1.1.vapour.getD i default).hi)]⟩])), (1, .blk 25 [.sl 1000, .sl 1001]), (2, .blk 29 [.v (.int .i64 r1.2.volume), .v (.int .i64 r1.2.alcohol.lo), .v (.int .i64 r1.2.alcohol.hi)])], ((1001, ⟨r1.1.vapour.length, 2, fun i => [.int .i64 ((r1.1.vapour.getD i default).lo), .int .i64 ((r1.1.vapour.getD i default).hi)]⟩) :: ((1000, ⟨r1.1.liquid.length, 1, fun i => [.int .i64 (r1.1.liquid.getD i default)]⟩) :: [])), []⟩⟩) rfl (fun v w h => h.2.1) (by intro _ h; cases h) (by kernel_rfl) (by kernel_rfl) S
  obtain ⟨r2, e2, h⟩ := bind_some h
  refine sym_seq lay_ok mixed [(2, { g := 3 }), (3, { g := 4, fp := [3], res := .tup [.ltr 4 0, .agg [.v (.int .i64 r2.2.1.volume), .v (.int .i64 r2.2.1.alcohol.lo), .v (.int .i64 r2.2.1.alcohol.hi)], .v (.int .i64 r2.2.2)], hx := some (SlicesAre 0 [⟨r2.1.length, 3, fun i => [.int .i64 ((r2.1.getD i default).amount), .int .i64 (((r2.1.getD i default).alcohol).lo), .int .i64 (((r2.1.getD i default).alcohol).hi)]⟩]) }), (8, { g := 5 })] [4, 3, 5] [4, 5] (⟨[(4, .own 5 0), (3, .ltr 4 0), (5, .v (.int .i64 r2.2.2))], ⟨[(4, .held (SlicesAre 0 [⟨r2.1.length, 3, fun i => [.int .i64 ((r2.1.getD i default).amount), .int .i64 (((r2.1.getD i default).alcohol).lo), .int .i64 (((r2.1.getD i default).alcohol).hi)]⟩])), (5, .blk 29 [.v (.int .i64 r2.2.1.volume), .v (.int .i64 r2.2.1.alcohol.lo), .v (.int .i64 r2.2.1.alcohol.hi)])], ((1001, ⟨r1.1.vapour.length, 2, fun i => [.int .i64 ((r1.1.vapour.getD i default).lo), .int .i64 ((r1.1.vapour.getD i default).hi)]⟩) :: ((1000, ⟨r1.1.liquid.length, 1, fun i => [.int .i64 (r1.1.liquid.getD i default)]⟩) :: [])), []⟩⟩) [.callx ⟨[(3, .blk 3 [.v (.int .i64 1000), .v (.int .i64 1000)])], ((1001, ⟨r1.1.vapour.length, 2, fun i => [.int .i64 ((r1.1.vapour.getD i default).lo), .int .i64 ((r1.1.vapour.getD i default).hi)]⟩) :: ((1000, ⟨r1.1.liquid.length, 1, fun i => [.int .i64 (r1.1.liquid.getD i default)]⟩) :: [])), []⟩ 4 22 [.agg [.sl 1000, .sl 1001], .agg [.v (.int .i64 r1.2.volume), .v (.int .i64 r1.2.alcohol.lo), .v (.int .i64 r1.2.alcohol.hi)], .row 3 0 2 2] (.tup [.ltr 4 0, .agg [.v (.int .i64 r2.2.1.volume), .v (.int .i64 r2.2.1.alcohol.lo), .v (.int .i64 r2.2.1.alcohol.hi)], .v (.int .i64 r2.2.2)]) (SlicesAre 0 [⟨r2.1.length, 3, fun i => [.int .i64 ((r2.1.getD i default).amount), .int .i64 (((r2.1.getD i default).alcohol).lo), .int .i64 (((r2.1.getD i default).alcohol).hi)]⟩])] S (by kernel_rfl) (by kernel_rfl) (by kernel_rfl) ⟨⟨enters_22, fun E W _ hm => by obtain ⟨A0, c0, q0, l0, s0, _⟩ := Mem.sl hm (s := 1000) rfl; obtain ⟨A1, c1, q1, l1, s1, _⟩ := Mem.sl hm (s := 1001) rfl; simp only [SV.vals, SV.val, q0, q1]; exact ((runOf_ok fuel r1.1 (MPot.mk r1.2.volume (MSpan.mk r1.2.alcohol.lo r1.2.alcohol.hi)) ([1000, 1000]) W A0 c0 l0 s0 A1 c1 l1 s1 (some ⟨E.ρ 3, 0, none⟩) 2 (Nat.le_refl _) (SlAt.of_blk (hm.blk 3 _ _ rfl) (lit_get ⟨⟨trivial, rfl⟩, rfl⟩)) r2 e2).mono fun e w' hx => by obtain ⟨v, h1, h2, h3, h4⟩ := hx; exact ⟨v, h1, h2, h3, h4.mono fun _ _ h => .inl h⟩)⟩, trivial⟩ ?_
  clear S; intro E a w S
  obtain ⟨E, S⟩ := St.read 4 0 1002 ⟨r2.1.length, 3, fun i => [.int .i64 ((r2.1.getD i default).amount), .int .i64 (((r2.1.getD i default).alcohol).lo), .int .i64 (((r2.1.getD i default).alcohol).hi)]⟩ (⟨[(4, .own 5 0), (3, .sl 1002), (5, .v (.int .i64 r2.2.2))], ⟨[(4, .held (SlicesAre 0 [⟨r2.1.length, 3, fun i => [.int .i64 ((r2.1.getD i default).amount), .int .i64 (((r2.1.getD i default).alcohol).lo), .int .i64 (((r2.1.getD i default).alcohol).hi)]⟩])), (5, .blk 29 [.v (.int .i64 r2.2.1.volume), .v (.int .i64 r2.2.1.alcohol.lo), .v (.int .i64 r2.2.1.alcohol.hi)])], ((1002, ⟨r2.1.length, 3, fun i => [.int .i64 ((r2.1.getD i default).amount), .int .i64 (((r2.1.getD i default).alcohol).lo), .int .i64 (((r2.1.getD i default).alcohol).hi)]⟩) :: ((1001, ⟨r1.1.vapour.length, 2, fun i => [.int .i64 ((r1.1.vapour.getD i default).lo), .int .i64 ((r1.1.vapour.getD i default).hi)]⟩) :: ((1000, ⟨r1.1.liquid.length, 1, fun i => [.int .i64 (r1.1.liquid.getD i default)]⟩) :: []))), []⟩⟩) rfl (fun v w h => h.1) (by intro _ h; cases h) (by kernel_rfl) (by kernel_rfl) S
  obtain ⟨r3, e3, h⟩ := bind_some h
  refine sym_seq lay_ok mixed [(2, { res := .tup [.v (.int .i64 r3.1), .v (.int .i64 r3.2.1), .v (.int .i64 r3.2.2)] })] [4, 3, 5, 6, 7, 8] [5] (⟨[(4, .own 5 0), (3, .sl 1002), (5, .v (.int .i64 r2.2.2)), (6, .v (.int .i64 r3.1)), (7, .v (.int .i64 r3.2.1)), (8, .v (.int .i64 r3.2.2))], ⟨[(5, .blk 29 [.v (.int .i64 r2.2.1.volume), .v (.int .i64 r2.2.1.alcohol.lo), .v (.int .i64 r2.2.1.alcohol.hi)])], ((1002, ⟨r2.1.length, 3, fun i => [.int .i64 ((r2.1.getD i default).amount), .int .i64 (((r2.1.getD i default).alcohol).lo), .int .i64 (((r2.1.getD i default).alcohol).hi)]⟩) :: ((1001, ⟨r1.1.vapour.length, 2, fun i => [.int .i64 ((r1.1.vapour.getD i default).lo), .int .i64 ((r1.1.vapour.getD i default).hi)]⟩) :: ((1000, ⟨r1.1.liquid.length, 1, fun i => [.int .i64 (r1.1.liquid.getD i default)]⟩) :: []))), []⟩⟩) [.call ⟨[], ((1002, ⟨r2.1.length, 3, fun i => [.int .i64 ((r2.1.getD i default).amount), .int .i64 (((r2.1.getD i default).alcohol).lo), .int .i64 (((r2.1.getD i default).alcohol).hi)]⟩) :: ((1001, ⟨r1.1.vapour.length, 2, fun i => [.int .i64 ((r1.1.vapour.getD i default).lo), .int .i64 ((r1.1.vapour.getD i default).hi)]⟩) :: ((1000, ⟨r1.1.liquid.length, 1, fun i => [.int .i64 (r1.1.liquid.getD i default)]⟩) :: []))), []⟩ 32 [.agg [.v (.int .i64 1000), .v (.int .i64 1000)], .agg [.v (.int .i64 100), .v (.int .i64 250)], .v (.int .i64 0), .v (.int .i64 400)] (.tup [.v (.int .i64 r3.1), .v (.int .i64 r3.2.1), .v (.int .i64 r3.2.2)])] S (by kernel_rfl) (by kernel_rfl) (by kernel_rfl) ⟨⟨enters_32, fun _ W _ _ => still_Cycle_ok fuel (MSpan.mk 1000 1000) (MSpan.mk 100 250) 0 400 W r3 e3⟩, trivial⟩ ?_
  clear S; intro E a w S
  obtain ⟨⟨g1, g2⟩, h⟩ := grd_some h
  refine sym_seq lay_ok mixed [(4, { og := true }), (5, { og := true }), (6, { og := true }), (7, { og := true }), (8, { og := true }), (9, { og := true }), (10, { pk := true }), (12, { og := true }), (13, { og := true }), (14, { og := true }), (15, { og := true }), (16, { og := true }), (17, { og := true }), (18, { pk := true }), (20, { og := true }), (21, { og := true }), (22, { og := true }), (23, { og := true }), (24, { pk := true }), (26, { og := true }), (27, { og := true }), (28, { pk := true }), (30, { og := true }), (31, { og := true }), (32, { pk := true }), (34, { og := true }), (35, { og := true }), (36, { pk := true }), (38, { og := true }), (39, { og := true }), (40, { pk := true })] [0] [] (⟨[(0, .v (.bool ((((((((((r2.1.length : Nat) : Int) == 2) && ((((r2.1.getD (Int.toNat 0) default).amount) == 1000) && (((((r2.1.getD (Int.toNat 0) default).alcohol).lo) == 266) && ((((r2.1.getD (Int.toNat 0) default).alcohol).hi) == 520)))) && ((((r2.1.getD (Int.toNat 1) default).amount) == 1000) && (((((r2.1.getD (Int.toNat 1) default).alcohol).lo) == 34) && ((((r2.1.getD (Int.toNat 1) default).alcohol).hi) == 425)))) && ((r2.2.1.volume == 8000) && ((r2.2.1.alcohol.lo == 55) && (r2.2.1.alcohol.hi == 653)))) && (r2.2.2 == 0)) && (r3.1 == 334)) && (r3.2.1 == (-1))) && (r3.2.2 == 0))))], ⟨[], ((1002, ⟨r2.1.length, 3, fun i => [.int .i64 ((r2.1.getD i default).amount), .int .i64 (((r2.1.getD i default).alcohol).lo), .int .i64 (((r2.1.getD i default).alcohol).hi)]⟩) :: ((1001, ⟨r1.1.vapour.length, 2, fun i => [.int .i64 ((r1.1.vapour.getD i default).lo), .int .i64 ((r1.1.vapour.getD i default).hi)]⟩) :: ((1000, ⟨r1.1.liquid.length, 1, fun i => [.int .i64 (r1.1.liquid.getD i default)]⟩) :: []))), []⟩⟩) [.imp (((r2.1.length : Nat) : Int) == 2) (((r2.1.length : Nat) : Int) == 2), .when (((r2.1.length : Nat) : Int) == 2) (.idx 0 r2.1.length), .imp (((r2.1.length : Nat) : Int) == 2) (((r2.1.length : Nat) : Int) == 2), .when (((r2.1.length : Nat) : Int) == 2) (.idx 0 r2.1.length), .imp (((r2.1.length : Nat) : Int) == 2) (((r2.1.length : Nat) : Int) == 2), .imp (((r2.1.length : Nat) : Int) == 2) (((r2.1.length : Nat) : Int) == 2), .imp (((r2.1.length : Nat) : Int) == 2) (((r2.1.length : Nat) : Int) == 2), .imp (((r2.1.length : Nat) : Int) == 2) (((r2.1.length : Nat) : Int) == 2), .imp ((((r2.1.length : Nat) : Int) == 2) && ((((r2.1.getD (Int.toNat 0) default).amount) == 1000) && (((((r2.1.getD (Int.toNat 0) default).alcohol).lo) == 266) && ((((r2.1.getD (Int.toNat 0) default).alcohol).hi) == 520)))) ((((r2.1.length : Nat) : Int) == 2) && ((((r2.1.getD (Int.toNat 0) default).amount) == 1000) && (((((r2.1.getD (Int.toNat 0) default).alcohol).lo) == 266) && ((((r2.1.getD (Int.toNat 0) default).alcohol).hi) == 520)))), .when ((((r2.1.length : Nat) : Int) == 2) && ((((r2.1.getD (Int.toNat 0) default).amount) == 1000) && (((((r2.1.getD (Int.toNat 0) default).alcohol).lo) == 266) && ((((r2.1.getD (Int.toNat 0) default).alcohol).hi) == 520)))) (.idx 1 r2.1.length), .imp ((((r2.1.length : Nat) : Int) == 2) && ((((r2.1.getD (Int.toNat 0) default).amount) == 1000) && (((((r2.1.getD (Int.toNat 0) default).alcohol).lo) == 266) && ((((r2.1.getD (Int.toNat 0) default).alcohol).hi) == 520)))) ((((r2.1.length : Nat) : Int) == 2) && ((((r2.1.getD (Int.toNat 0) default).amount) == 1000) && (((((r2.1.getD (Int.toNat 0) default).alcohol).lo) == 266) && ((((r2.1.getD (Int.toNat 0) default).alcohol).hi) == 520)))), .when ((((r2.1.length : Nat) : Int) == 2) && ((((r2.1.getD (Int.toNat 0) default).amount) == 1000) && (((((r2.1.getD (Int.toNat 0) default).alcohol).lo) == 266) && ((((r2.1.getD (Int.toNat 0) default).alcohol).hi) == 520)))) (.idx 1 r2.1.length), .imp ((((r2.1.length : Nat) : Int) == 2) && ((((r2.1.getD (Int.toNat 0) default).amount) == 1000) && (((((r2.1.getD (Int.toNat 0) default).alcohol).lo) == 266) && ((((r2.1.getD (Int.toNat 0) default).alcohol).hi) == 520)))) ((((r2.1.length : Nat) : Int) == 2) && ((((r2.1.getD (Int.toNat 0) default).amount) == 1000) && (((((r2.1.getD (Int.toNat 0) default).alcohol).lo) == 266) && ((((r2.1.getD (Int.toNat 0) default).alcohol).hi) == 520)))), .imp ((((r2.1.length : Nat) : Int) == 2) && ((((r2.1.getD (Int.toNat 0) default).amount) == 1000) && (((((r2.1.getD (Int.toNat 0) default).alcohol).lo) == 266) && ((((r2.1.getD (Int.toNat 0) default).alcohol).hi) == 520)))) ((((r2.1.length : Nat) : Int) == 2) && ((((r2.1.getD (Int.toNat 0) default).amount) == 1000) && (((((r2.1.getD (Int.toNat 0) default).alcohol).lo) == 266) && ((((r2.1.getD (Int.toNat 0) default).alcohol).hi) == 520)))), .imp ((((r2.1.length : Nat) : Int) == 2) && ((((r2.1.getD (Int.toNat 0) default).amount) == 1000) && (((((r2.1.getD (Int.toNat 0) default).alcohol).lo) == 266) && ((((r2.1.getD (Int.toNat 0) default).alcohol).hi) == 520)))) ((((r2.1.length : Nat) : Int) == 2) && ((((r2.1.getD (Int.toNat 0) default).amount) == 1000) && (((((r2.1.getD (Int.toNat 0) default).alcohol).lo) == 266) && ((((r2.1.getD (Int.toNat 0) default).alcohol).hi) == 520)))), .imp ((((r2.1.length : Nat) : Int) == 2) && ((((r2.1.getD (Int.toNat 0) default).amount) == 1000) && (((((r2.1.getD (Int.toNat 0) default).alcohol).lo) == 266) && ((((r2.1.getD (Int.toNat 0) default).alcohol).hi) == 520)))) ((((r2.1.length : Nat) : Int) == 2) && ((((r2.1.getD (Int.toNat 0) default).amount) == 1000) && (((((r2.1.getD (Int.toNat 0) default).alcohol).lo) == 266) && ((((r2.1.getD (Int.toNat 0) default).alcohol).hi) == 520)))), .imp (((((r2.1.length : Nat) : Int) == 2) && ((((r2.1.getD (Int.toNat 0) default).amount) == 1000) && (((((r2.1.getD (Int.toNat 0) default).alcohol).lo) == 266) && ((((r2.1.getD (Int.toNat 0) default).alcohol).hi) == 520)))) && ((((r2.1.getD (Int.toNat 1) default).amount) == 1000) && (((((r2.1.getD (Int.toNat 1) default).alcohol).lo) == 34) && ((((r2.1.getD (Int.toNat 1) default).alcohol).hi) == 425)))) (((((r2.1.length : Nat) : Int) == 2) && ((((r2.1.getD (Int.toNat 0) default).amount) == 1000) && (((((r2.1.getD (Int.toNat 0) default).alcohol).lo) == 266) && ((((r2.1.getD (Int.toNat 0) default).alcohol).hi) == 520)))) && ((((r2.1.getD (Int.toNat 1) default).amount) == 1000) && (((((r2.1.getD (Int.toNat 1) default).alcohol).lo) == 34) && ((((r2.1.getD (Int.toNat 1) default).alcohol).hi) == 425)))), .imp (((((r2.1.length : Nat) : Int) == 2) && ((((r2.1.getD (Int.toNat 0) default).amount) == 1000) && (((((r2.1.getD (Int.toNat 0) default).alcohol).lo) == 266) && ((((r2.1.getD (Int.toNat 0) default).alcohol).hi) == 520)))) && ((((r2.1.getD (Int.toNat 1) default).amount) == 1000) && (((((r2.1.getD (Int.toNat 1) default).alcohol).lo) == 34) && ((((r2.1.getD (Int.toNat 1) default).alcohol).hi) == 425)))) (((((r2.1.length : Nat) : Int) == 2) && ((((r2.1.getD (Int.toNat 0) default).amount) == 1000) && (((((r2.1.getD (Int.toNat 0) default).alcohol).lo) == 266) && ((((r2.1.getD (Int.toNat 0) default).alcohol).hi) == 520)))) && ((((r2.1.getD (Int.toNat 1) default).amount) == 1000) && (((((r2.1.getD (Int.toNat 1) default).alcohol).lo) == 34) && ((((r2.1.getD (Int.toNat 1) default).alcohol).hi) == 425)))), .imp (((((r2.1.length : Nat) : Int) == 2) && ((((r2.1.getD (Int.toNat 0) default).amount) == 1000) && (((((r2.1.getD (Int.toNat 0) default).alcohol).lo) == 266) && ((((r2.1.getD (Int.toNat 0) default).alcohol).hi) == 520)))) && ((((r2.1.getD (Int.toNat 1) default).amount) == 1000) && (((((r2.1.getD (Int.toNat 1) default).alcohol).lo) == 34) && ((((r2.1.getD (Int.toNat 1) default).alcohol).hi) == 425)))) (((((r2.1.length : Nat) : Int) == 2) && ((((r2.1.getD (Int.toNat 0) default).amount) == 1000) && (((((r2.1.getD (Int.toNat 0) default).alcohol).lo) == 266) && ((((r2.1.getD (Int.toNat 0) default).alcohol).hi) == 520)))) && ((((r2.1.getD (Int.toNat 1) default).amount) == 1000) && (((((r2.1.getD (Int.toNat 1) default).alcohol).lo) == 34) && ((((r2.1.getD (Int.toNat 1) default).alcohol).hi) == 425)))), .imp (((((r2.1.length : Nat) : Int) == 2) && ((((r2.1.getD (Int.toNat 0) default).amount) == 1000) && (((((r2.1.getD (Int.toNat 0) default).alcohol).lo) == 266) && ((((r2.1.getD (Int.toNat 0) default).alcohol).hi) == 520)))) && ((((r2.1.getD (Int.toNat 1) default).amount) == 1000) && (((((r2.1.getD (Int.toNat 1) default).alcohol).lo) == 34) && ((((r2.1.getD (Int.toNat 1) default).alcohol).hi) == 425)))) (((((r2.1.length : Nat) : Int) == 2) && ((((r2.1.getD (Int.toNat 0) default).amount) == 1000) && (((((r2.1.getD (Int.toNat 0) default).alcohol).lo) == 266) && ((((r2.1.getD (Int.toNat 0) default).alcohol).hi) == 520)))) && ((((r2.1.getD (Int.toNat 1) default).amount) == 1000) && (((((r2.1.getD (Int.toNat 1) default).alcohol).lo) == 34) && ((((r2.1.getD (Int.toNat 1) default).alcohol).hi) == 425)))), .imp ((((((r2.1.length : Nat) : Int) == 2) && ((((r2.1.getD (Int.toNat 0) default).amount) == 1000) && (((((r2.1.getD (Int.toNat 0) default).alcohol).lo) == 266) && ((((r2.1.getD (Int.toNat 0) default).alcohol).hi) == 520)))) && ((((r2.1.getD (Int.toNat 1) default).amount) == 1000) && (((((r2.1.getD (Int.toNat 1) default).alcohol).lo) == 34) && ((((r2.1.getD (Int.toNat 1) default).alcohol).hi) == 425)))) && ((r2.2.1.volume == 8000) && ((r2.2.1.alcohol.lo == 55) && (r2.2.1.alcohol.hi == 653)))) ((((((r2.1.length : Nat) : Int) == 2) && ((((r2.1.getD (Int.toNat 0) default).amount) == 1000) && (((((r2.1.getD (Int.toNat 0) default).alcohol).lo) == 266) && ((((r2.1.getD (Int.toNat 0) default).alcohol).hi) == 520)))) && ((((r2.1.getD (Int.toNat 1) default).amount) == 1000) && (((((r2.1.getD (Int.toNat 1) default).alcohol).lo) == 34) && ((((r2.1.getD (Int.toNat 1) default).alcohol).hi) == 425)))) && ((r2.2.1.volume == 8000) && ((r2.2.1.alcohol.lo == 55) && (r2.2.1.alcohol.hi == 653)))), .imp ((((((r2.1.length : Nat) : Int) == 2) && ((((r2.1.getD (Int.toNat 0) default).amount) == 1000) && (((((r2.1.getD (Int.toNat 0) default).alcohol).lo) == 266) && ((((r2.1.getD (Int.toNat 0) default).alcohol).hi) == 520)))) && ((((r2.1.getD (Int.toNat 1) default).amount) == 1000) && (((((r2.1.getD (Int.toNat 1) default).alcohol).lo) == 34) && ((((r2.1.getD (Int.toNat 1) default).alcohol).hi) == 425)))) && ((r2.2.1.volume == 8000) && ((r2.2.1.alcohol.lo == 55) && (r2.2.1.alcohol.hi == 653)))) ((((((r2.1.length : Nat) : Int) == 2) && ((((r2.1.getD (Int.toNat 0) default).amount) == 1000) && (((((r2.1.getD (Int.toNat 0) default).alcohol).lo) == 266) && ((((r2.1.getD (Int.toNat 0) default).alcohol).hi) == 520)))) && ((((r2.1.getD (Int.toNat 1) default).amount) == 1000) && (((((r2.1.getD (Int.toNat 1) default).alcohol).lo) == 34) && ((((r2.1.getD (Int.toNat 1) default).alcohol).hi) == 425)))) && ((r2.2.1.volume == 8000) && ((r2.2.1.alcohol.lo == 55) && (r2.2.1.alcohol.hi == 653)))), .imp (((((((r2.1.length : Nat) : Int) == 2) && ((((r2.1.getD (Int.toNat 0) default).amount) == 1000) && (((((r2.1.getD (Int.toNat 0) default).alcohol).lo) == 266) && ((((r2.1.getD (Int.toNat 0) default).alcohol).hi) == 520)))) && ((((r2.1.getD (Int.toNat 1) default).amount) == 1000) && (((((r2.1.getD (Int.toNat 1) default).alcohol).lo) == 34) && ((((r2.1.getD (Int.toNat 1) default).alcohol).hi) == 425)))) && ((r2.2.1.volume == 8000) && ((r2.2.1.alcohol.lo == 55) && (r2.2.1.alcohol.hi == 653)))) && (r2.2.2 == 0)) (((((((r2.1.length : Nat) : Int) == 2) && ((((r2.1.getD (Int.toNat 0) default).amount) == 1000) && (((((r2.1.getD (Int.toNat 0) default).alcohol).lo) == 266) && ((((r2.1.getD (Int.toNat 0) default).alcohol).hi) == 520)))) && ((((r2.1.getD (Int.toNat 1) default).amount) == 1000) && (((((r2.1.getD (Int.toNat 1) default).alcohol).lo) == 34) && ((((r2.1.getD (Int.toNat 1) default).alcohol).hi) == 425)))) && ((r2.2.1.volume == 8000) && ((r2.2.1.alcohol.lo == 55) && (r2.2.1.alcohol.hi == 653)))) && (r2.2.2 == 0)), .imp (((((((r2.1.length : Nat) : Int) == 2) && ((((r2.1.getD (Int.toNat 0) default).amount) == 1000) && (((((r2.1.getD (Int.toNat 0) default).alcohol).lo) == 266) && ((((r2.1.getD (Int.toNat 0) default).alcohol).hi) == 520)))) && ((((r2.1.getD (Int.toNat 1) default).amount) == 1000) && (((((r2.1.getD (Int.toNat 1) default).alcohol).lo) == 34) && ((((r2.1.getD (Int.toNat 1) default).alcohol).hi) == 425)))) && ((r2.2.1.volume == 8000) && ((r2.2.1.alcohol.lo == 55) && (r2.2.1.alcohol.hi == 653)))) && (r2.2.2 == 0)) (((((((r2.1.length : Nat) : Int) == 2) && ((((r2.1.getD (Int.toNat 0) default).amount) == 1000) && (((((r2.1.getD (Int.toNat 0) default).alcohol).lo) == 266) && ((((r2.1.getD (Int.toNat 0) default).alcohol).hi) == 520)))) && ((((r2.1.getD (Int.toNat 1) default).amount) == 1000) && (((((r2.1.getD (Int.toNat 1) default).alcohol).lo) == 34) && ((((r2.1.getD (Int.toNat 1) default).alcohol).hi) == 425)))) && ((r2.2.1.volume == 8000) && ((r2.2.1.alcohol.lo == 55) && (r2.2.1.alcohol.hi == 653)))) && (r2.2.2 == 0)), .imp ((((((((r2.1.length : Nat) : Int) == 2) && ((((r2.1.getD (Int.toNat 0) default).amount) == 1000) && (((((r2.1.getD (Int.toNat 0) default).alcohol).lo) == 266) && ((((r2.1.getD (Int.toNat 0) default).alcohol).hi) == 520)))) && ((((r2.1.getD (Int.toNat 1) default).amount) == 1000) && (((((r2.1.getD (Int.toNat 1) default).alcohol).lo) == 34) && ((((r2.1.getD (Int.toNat 1) default).alcohol).hi) == 425)))) && ((r2.2.1.volume == 8000) && ((r2.2.1.alcohol.lo == 55) && (r2.2.1.alcohol.hi == 653)))) && (r2.2.2 == 0)) && (r3.1 == 334)) ((((((((r2.1.length : Nat) : Int) == 2) && ((((r2.1.getD (Int.toNat 0) default).amount) == 1000) && (((((r2.1.getD (Int.toNat 0) default).alcohol).lo) == 266) && ((((r2.1.getD (Int.toNat 0) default).alcohol).hi) == 520)))) && ((((r2.1.getD (Int.toNat 1) default).amount) == 1000) && (((((r2.1.getD (Int.toNat 1) default).alcohol).lo) == 34) && ((((r2.1.getD (Int.toNat 1) default).alcohol).hi) == 425)))) && ((r2.2.1.volume == 8000) && ((r2.2.1.alcohol.lo == 55) && (r2.2.1.alcohol.hi == 653)))) && (r2.2.2 == 0)) && (r3.1 == 334)), .imp ((((((((r2.1.length : Nat) : Int) == 2) && ((((r2.1.getD (Int.toNat 0) default).amount) == 1000) && (((((r2.1.getD (Int.toNat 0) default).alcohol).lo) == 266) && ((((r2.1.getD (Int.toNat 0) default).alcohol).hi) == 520)))) && ((((r2.1.getD (Int.toNat 1) default).amount) == 1000) && (((((r2.1.getD (Int.toNat 1) default).alcohol).lo) == 34) && ((((r2.1.getD (Int.toNat 1) default).alcohol).hi) == 425)))) && ((r2.2.1.volume == 8000) && ((r2.2.1.alcohol.lo == 55) && (r2.2.1.alcohol.hi == 653)))) && (r2.2.2 == 0)) && (r3.1 == 334)) ((((((((r2.1.length : Nat) : Int) == 2) && ((((r2.1.getD (Int.toNat 0) default).amount) == 1000) && (((((r2.1.getD (Int.toNat 0) default).alcohol).lo) == 266) && ((((r2.1.getD (Int.toNat 0) default).alcohol).hi) == 520)))) && ((((r2.1.getD (Int.toNat 1) default).amount) == 1000) && (((((r2.1.getD (Int.toNat 1) default).alcohol).lo) == 34) && ((((r2.1.getD (Int.toNat 1) default).alcohol).hi) == 425)))) && ((r2.2.1.volume == 8000) && ((r2.2.1.alcohol.lo == 55) && (r2.2.1.alcohol.hi == 653)))) && (r2.2.2 == 0)) && (r3.1 == 334)), .imp (((((((((r2.1.length : Nat) : Int) == 2) && ((((r2.1.getD (Int.toNat 0) default).amount) == 1000) && (((((r2.1.getD (Int.toNat 0) default).alcohol).lo) == 266) && ((((r2.1.getD (Int.toNat 0) default).alcohol).hi) == 520)))) && ((((r2.1.getD (Int.toNat 1) default).amount) == 1000) && (((((r2.1.getD (Int.toNat 1) default).alcohol).lo) == 34) && ((((r2.1.getD (Int.toNat 1) default).alcohol).hi) == 425)))) && ((r2.2.1.volume == 8000) && ((r2.2.1.alcohol.lo == 55) && (r2.2.1.alcohol.hi == 653)))) && (r2.2.2 == 0)) && (r3.1 == 334)) && (r3.2.1 == (-1))) (((((((((r2.1.length : Nat) : Int) == 2) && ((((r2.1.getD (Int.toNat 0) default).amount) == 1000) && (((((r2.1.getD (Int.toNat 0) default).alcohol).lo) == 266) && ((((r2.1.getD (Int.toNat 0) default).alcohol).hi) == 520)))) && ((((r2.1.getD (Int.toNat 1) default).amount) == 1000) && (((((r2.1.getD (Int.toNat 1) default).alcohol).lo) == 34) && ((((r2.1.getD (Int.toNat 1) default).alcohol).hi) == 425)))) && ((r2.2.1.volume == 8000) && ((r2.2.1.alcohol.lo == 55) && (r2.2.1.alcohol.hi == 653)))) && (r2.2.2 == 0)) && (r3.1 == 334)) && (r3.2.1 == (-1))), .imp (((((((((r2.1.length : Nat) : Int) == 2) && ((((r2.1.getD (Int.toNat 0) default).amount) == 1000) && (((((r2.1.getD (Int.toNat 0) default).alcohol).lo) == 266) && ((((r2.1.getD (Int.toNat 0) default).alcohol).hi) == 520)))) && ((((r2.1.getD (Int.toNat 1) default).amount) == 1000) && (((((r2.1.getD (Int.toNat 1) default).alcohol).lo) == 34) && ((((r2.1.getD (Int.toNat 1) default).alcohol).hi) == 425)))) && ((r2.2.1.volume == 8000) && ((r2.2.1.alcohol.lo == 55) && (r2.2.1.alcohol.hi == 653)))) && (r2.2.2 == 0)) && (r3.1 == 334)) && (r3.2.1 == (-1))) (((((((((r2.1.length : Nat) : Int) == 2) && ((((r2.1.getD (Int.toNat 0) default).amount) == 1000) && (((((r2.1.getD (Int.toNat 0) default).alcohol).lo) == 266) && ((((r2.1.getD (Int.toNat 0) default).alcohol).hi) == 520)))) && ((((r2.1.getD (Int.toNat 1) default).amount) == 1000) && (((((r2.1.getD (Int.toNat 1) default).alcohol).lo) == 34) && ((((r2.1.getD (Int.toNat 1) default).alcohol).hi) == 425)))) && ((r2.2.1.volume == 8000) && ((r2.2.1.alcohol.lo == 55) && (r2.2.1.alcohol.hi == 653)))) && (r2.2.2 == 0)) && (r3.1 == 334)) && (r3.2.1 == (-1)))] S (by kernel_rfl) (by kernel_rfl) (by kernel_rfl) (by exact ⟨fun h => h, fun hW => (g1 hW), fun h => h, fun hW => (g1 hW), fun h => h, fun h => h, fun h => h, fun h => h, fun h => h, fun hW => (g2 hW), fun h => h, fun hW => (g2 hW), fun h => h, fun h => h, fun h => h, fun h => h, fun h => h, fun h => h, fun h => h, fun h => h, fun h => h, fun h => h, fun h => h, fun h => h, fun h => h, fun h => h, fun h => h, fun h => h, trivial⟩) ?_
  clear S; intro E a w S
  refine wp_ret ?_
  have h := Option.some.inj h
  subst h
  exact sym_ret lay_ok [.v (.bool ((((((((((r2.1.length : Nat) : Int) == 2) && ((((r2.1.getD (Int.toNat 0) default).amount) == 1000) && (((((r2.1.getD (Int.toNat 0) default).alcohol).lo) == 266) && ((((r2.1.getD (Int.toNat 0) default).alcohol).hi) == 520)))) && ((((r2.1.getD (Int.toNat 1) default).amount) == 1000) && (((((r2.1.getD (Int.toNat 1) default).alcohol).lo) == 34) && ((((r2.1.getD (Int.toNat 1) default).alcohol).hi) == 425)))) && ((r2.2.1.volume == 8000) && ((r2.2.1.alcohol.lo == 55) && (r2.2.1.alcohol.hi == 653)))) && (r2.2.2 == 0)) && (r3.1 == 334)) && (r3.2.1 == (-1))) && (r3.2.2 == 0)))] (by kernel_rfl) rfl S ⟨rfl, S.below rfl⟩
def still_Draw_R (c : MCurve) : List (Nat × Q) := [(0, ⟨c.liquid.length, 1, fun i => [.int .i64 (c.liquid.getD i default)]⟩), (1, ⟨c.vapour.length, 2, fun i => [.int .i64 ((c.vapour.getD i default).lo), .int .i64 ((c.vapour.getD i default).hi)]⟩)]
def still_Draw (fuel : Nat) (c : MCurve) (p : MPot) (amount : Int) : Option (MDrawn × MPot × Int) :=
(runOf fuel c (MPot.mk p.volume (MSpan.mk p.alcohol.lo p.alcohol.hi)) ([amount])).bind fun (r1 : (List MDrawn × MPot × Int)) =>
(bif (r1.2.2 != 0) then
(some ((MDrawn.mk 0 (MSpan.mk 0 0)), (MPot.mk 0 (MSpan.mk 0 0)), r1.2.2))
else
(grd (((0 : Int) ≤ 0 ∧ (0 : Int) < ((r1.1.length : Nat) : Int))) <|
some ((MDrawn.mk ((r1.1.getD (Int.toNat 0) default).amount) (MSpan.mk (((r1.1.getD (Int.toNat 0) default).alcohol).lo) (((r1.1.getD (Int.toNat 0) default).alcohol).hi))), (MPot.mk r1.2.1.volume (MSpan.mk r1.2.1.alcohol.lo r1.2.1.alcohol.hi)), 0)))
set_option maxRecDepth 100000 in
set_option maxHeartbeats 4000000 in
theorem still_Draw_ok (fuel : Nat) (c : MCurve) (p : MPot) (amount : Int) (W : World) (A0 : Option Addr) (c0 : Nat) (h0 : c.liquid.length ≤ c0) (s0 : SlAt W A0 c.liquid.length 1 fun i => [.int .i64 (c.liquid.getD i default)]) (A1 : Option Addr) (c1 : Nat) (h1 : c.vapour.length ≤ c1) (s1 : SlAt W A1 c.vapour.length 2 fun i => [.int .i64 ((c.vapour.getD i default).lo), .int .i64 ((c.vapour.getD i default).hi)]) (res : MDrawn × MPot × Int) (h : still_Draw fuel c p amount = some res) :
    Calls Go.Proofs.Try.prog 20 #[.agg #[.slice A0 c.liquid.length c0, .slice A1 c.vapour.length c1], .agg #[.int .i64 p.volume, .int .i64 p.alcohol.lo, .int .i64 p.alcohol.hi], .int .i64 amount] W fun e w' => e = .returned (.tuple #[.agg #[.int .i64 res.1.amount, .int .i64 res.1.alcohol.lo, .int .i64 res.1.alcohol.hi], .agg #[.int .i64 res.2.1.volume, .int .i64 res.2.1.alcohol.lo, .int .i64 res.2.1.alcohol.hi], .int .i64 res.2.2]) ∧ Below W.heap.size W w' := by
  refine sym_call (f := 20) (fn := Go.Proofs.Try.f20) (c := Go.Proofs.Try.f20.body.get rfl) Go.Proofs.Try.func20 rfl [.agg [.sl 0, .sl 1], .agg [.v (.int .i64 p.volume), .v (.int .i64 p.alcohol.lo), .v (.int .i64 p.alcohol.hi)], .v (.int .i64 amount)] (still_Draw_R c) [] (envOf [(0, ⟨A0, c.liquid.length, c0, 1⟩), (1, ⟨A1, c.vapour.length, c1, 2⟩)]) allR (fun _ _ => rfl) (by kernel_rfl) (envOf_one trivial) ⟨s0.rd h0, s1.rd h1, trivial⟩ (AllRR.all _ _) trivial fun E a w S => ?_
  rw [still_Draw] at h
  refine sym_seq lay_ok mixed [(0, { g := 0 }), (1, { g := 1 }), (2, { g := 2 }), (3, { g := 3 })] [2, 3, 4, 6, 7] [0, 1, 2, 3] (⟨[(2, .v (.int .i64 amount)), (3, .own 0 0), (4, .own 1 0), (6, .own 2 0), (7, .own 3 0)], ⟨[(0, .blk 25 [.sl 0, .sl 1]), (1, .blk 29 [.v (.int .i64 p.volume), .v (.int .i64 p.alcohol.lo), .v (.int .i64 p.alcohol.hi)]), (2, .blk 36 [.v (.int .i64 0), .v (.int .i64 0), .v (.int .i64 0)]), (3, .blk 29 [.v (.int .i64 0), .v (.int .i64 0), .v (.int .i64 0)])], (still_Draw_R c), []⟩⟩) [] S (by kernel_rfl) (by kernel_rfl) (by kernel_rfl) trivial ?_
  clear S; intro E a w S
  obtain ⟨r1, e1, h⟩ := bind_some h
  refine sym_seq lay_ok mixed [(3, { g := 4 }), (4, { g := 5, fp := [4], res := .tup [.ltr 5 0, .agg [.v (.int .i64 r1.2.1.volume), .v (.int .i64 r1.2.1.alcohol.lo), .v (.int .i64 r1.2.1.alcohol.hi)], .v (.int .i64 r1.2.2)], hx := some (SlicesAre 0 [⟨r1.1.length, 3, fun i => [.int .i64 ((r1.1.getD i default).amount), .int .i64 (((r1.1.getD i default).alcohol).lo), .int .i64 (((r1.1.getD i default).alcohol).hi)]⟩]) }), (9, { g := 6 })] [6, 7, 10, 9, 11] [2, 3, 5, 6] (⟨[(6, .own 2 0), (7, .own 3 0), (10, .own 6 0), (9, .ltr 5 0), (11, .v (.int .i64 r1.2.2))], ⟨[(2, .blk 36 [.v (.int .i64 0), .v (.int .i64 0), .v (.int .i64 0)]), (3, .blk 29 [.v (.int .i64 0), .v (.int .i64 0), .v (.int .i64 0)]), (5, .held (SlicesAre 0 [⟨r1.1.length, 3, fun i => [.int .i64 ((r1.1.getD i default).amount), .int .i64 (((r1.1.getD i default).alcohol).lo), .int .i64 (((r1.1.getD i default).alcohol).hi)]⟩])), (6, .blk 29 [.v (.int .i64 r1.2.1.volume), .v (.int .i64 r1.2.1.alcohol.lo), .v (.int .i64 r1.2.1.alcohol.hi)])], (still_Draw_R c), []⟩⟩) [.callx ⟨[(4, .blk 3 [.v (.int .i64 amount)])], (still_Draw_R c), []⟩ 5 22 [.agg [.sl 0, .sl 1], .agg [.v (.int .i64 p.volume), .v (.int .i64 p.alcohol.lo), .v (.int .i64 p.alcohol.hi)], .row 4 0 1 1] (.tup [.ltr 5 0, .agg [.v (.int .i64 r1.2.1.volume), .v (.int .i64 r1.2.1.alcohol.lo), .v (.int .i64 r1.2.1.alcohol.hi)], .v (.int .i64 r1.2.2)]) (SlicesAre 0 [⟨r1.1.length, 3, fun i => [.int .i64 ((r1.1.getD i default).amount), .int .i64 (((r1.1.getD i default).alcohol).lo), .int .i64 (((r1.1.getD i default).alcohol).hi)]⟩])] S (by kernel_rfl) (by kernel_rfl) (by kernel_rfl) ⟨⟨enters_22, fun E W _ hm => by obtain ⟨A0, c0, q0, l0, s0, _⟩ := Mem.sl hm (s := 0) rfl; obtain ⟨A1, c1, q1, l1, s1, _⟩ := Mem.sl hm (s := 1) rfl; simp only [SV.vals, SV.val, q0, q1]; exact ((runOf_ok fuel c (MPot.mk p.volume (MSpan.mk p.alcohol.lo p.alcohol.hi)) ([amount]) W A0 c0 l0 s0 A1 c1 l1 s1 (some ⟨E.ρ 4, 0, none⟩) 1 (Nat.le_refl _) (SlAt.of_blk (hm.blk 4 _ _ rfl) (lit_get ⟨trivial, rfl⟩)) r1 e1).mono fun e w' hx => by obtain ⟨v, h1, h2, h3, h4⟩ := hx; exact ⟨v, h1, h2, h3, h4.mono fun _ _ h => .inl h⟩)⟩, trivial⟩ ?_
  clear S; intro E a w S
  obtain ⟨E, S⟩ := St.read 5 0 1002 ⟨r1.1.length, 3, fun i => [.int .i64 ((r1.1.getD i default).amount), .int .i64 (((r1.1.getD i default).alcohol).lo), .int .i64 (((r1.1.getD i default).alcohol).hi)]⟩ (⟨[(6, .own 2 0), (7, .own 3 0), (10, .own 6 0), (9, .sl 1002), (11, .v (.int .i64 r1.2.2))], ⟨[(2, .blk 36 [.v (.int .i64 0), .v (.int .i64 0), .v (.int .i64 0)]), (3, .blk 29 [.v (.int .i64 0), .v (.int .i64 0), .v (.int .i64 0)]), (5, .held (SlicesAre 0 [⟨r1.1.length, 3, fun i => [.int .i64 ((r1.1.getD i default).amount), .int .i64 (((r1.1.getD i default).alcohol).lo), .int .i64 (((r1.1.getD i default).alcohol).hi)]⟩])), (6, .blk 29 [.v (.int .i64 r1.2.1.volume), .v (.int .i64 r1.2.1.alcohol.lo), .v (.int .i64 r1.2.1.alcohol.hi)])], ((1002, ⟨r1.1.length, 3, fun i => [.int .i64 ((r1.1.getD i default).amount), .int .i64 (((r1.1.getD i default).alcohol).lo), .int .i64 (((r1.1.getD i default).alcohol).hi)]⟩) :: (still_Draw_R c)), []⟩⟩) rfl (fun v w h => h.1) (by intro _ h; cases h) (by kernel_rfl) (by kernel_rfl) S
  refine wp_seq ?_
  refine sym_seq lay_ok mixed [] [6, 7, 10, 9, 11, 22] [2, 3, 6] (⟨[(6, .own 2 0), (7, .own 3 0), (10, .own 6 0), (9, .sl 1002), (11, .v (.int .i64 r1.2.2)), (22, .v (.bool (r1.2.2 != 0)))], ⟨[(2, .blk 36 [.v (.int .i64 0), .v (.int .i64 0), .v (.int .i64 0)]), (3, .blk 29 [.v (.int .i64 0), .v (.int .i64 0), .v (.int .i64 0)]), (6, .blk 29 [.v (.int .i64 r1.2.1.volume), .v (.int .i64 r1.2.1.alcohol.lo), .v (.int .i64 r1.2.1.alcohol.hi)])], ((1002, ⟨r1.1.length, 3, fun i => [.int .i64 ((r1.1.getD i default).amount), .int .i64 (((r1.1.getD i default).alcohol).lo), .int .i64 (((r1.1.getD i default).alcohol).hi)]⟩) :: (still_Draw_R c)), []⟩⟩) [] S (by kernel_rfl) (by kernel_rfl) (by kernel_rfl) trivial ?_
  clear S; intro E a w S
  refine sym_if_last (b := (r1.2.2 != 0)) S rfl (fun hb1 => ?_) (fun hb1 => ?_)
  · have h := bif_t hb1 h
    refine sym_seq lay_ok mixed [] [6, 7, 8] [2, 3] (⟨[(6, .own 2 0), (7, .own 3 0), (8, .v (.int .i64 r1.2.2))], ⟨[(2, .blk 36 [.v (.int .i64 0), .v (.int .i64 0), .v (.int .i64 0)]), (3, .blk 29 [.v (.int .i64 0), .v (.int .i64 0), .v (.int .i64 0)])], ((1002, ⟨r1.1.length, 3, fun i => [.int .i64 ((r1.1.getD i default).amount), .int .i64 (((r1.1.getD i default).alcohol).lo), .int .i64 (((r1.1.getD i default).alcohol).hi)]⟩) :: (still_Draw_R c)), []⟩⟩) [] S (by kernel_rfl) (by kernel_rfl) (by kernel_rfl) trivial ?_
    clear S; intro E a w S
    refine wp_ret ?_
    refine out_then_ret ?_
    have h := Option.some.inj h
    subst h
    exact sym_ret lay_ok [.agg [.v (.int .i64 0), .v (.int .i64 0), .v (.int .i64 0)], .agg [.v (.int .i64 0), .v (.int .i64 0), .v (.int .i64 0)], .v (.int .i64 r1.2.2)] (by kernel_rfl) rfl S ⟨rfl, S.below rfl⟩
  · have h := bif_f hb1 h
    refine wp_skip ?_
    refine out_then_normal ?_
    obtain ⟨g1, h⟩ := grd_some h
    refine sym_seq lay_ok mixed [] [6, 7, 8] [2, 3] (⟨[(6, .own 2 0), (7, .own 3 0), (8, .v (.int .i64 0))], ⟨[(2, .blk 36 [.v (.int .i64 ((r1.1.getD (Int.toNat 0) default).amount)), .v (.int .i64 (((r1.1.getD (Int.toNat 0) default).alcohol).lo)), .v (.int .i64 (((r1.1.getD (Int.toNat 0) default).alcohol).hi))]), (3, .blk 29 [.v (.int .i64 r1.2.1.volume), .v (.int .i64 r1.2.1.alcohol.lo), .v (.int .i64 r1.2.1.alcohol.hi)])], ((1002, ⟨r1.1.length, 3, fun i => [.int .i64 ((r1.1.getD i default).amount), .int .i64 (((r1.1.getD i default).alcohol).lo), .int .i64 (((r1.1.getD i default).alcohol).hi)]⟩) :: (still_Draw_R c)), []⟩⟩) [.idx 0 r1.1.length, .idx 0 r1.1.length] S (by kernel_rfl) (by kernel_rfl) (by kernel_rfl) ⟨g1, g1, trivial⟩ ?_
    clear S; intro E a w S
    refine wp_ret ?_
    have h := Option.some.inj h
    subst h
    exact sym_ret lay_ok [.agg [.v (.int .i64 ((r1.1.getD (Int.toNat 0) default).amount)), .v (.int .i64 (((r1.1.getD (Int.toNat 0) default).alcohol).lo)), .v (.int .i64 (((r1.1.getD (Int.toNat 0) default).alcohol).hi))], .agg [.v (.int .i64 r1.2.1.volume), .v (.int .i64 r1.2.1.alcohol.lo), .v (.int .i64 r1.2.1.alcohol.hi)], .v (.int .i64 0)] (by kernel_rfl) rfl S ⟨rfl, S.below rfl⟩
def still_Heart_R (c : MCurve) (amounts : List Int) : List (Nat × Q) := [(0, ⟨c.liquid.length, 1, fun i => [.int .i64 (c.liquid.getD i default)]⟩), (1, ⟨c.vapour.length, 2, fun i => [.int .i64 ((c.vapour.getD i default).lo), .int .i64 ((c.vapour.getD i default).hi)]⟩), (2, ⟨amounts.length, 1, fun i => [.int .i64 (amounts.getD i default)]⟩)]
def still_Heart_k1  (x1 : Int × Int) : Option (Int × Int) :=
some (x1.2, x1.1)
def still_Heart_l1 (target : Int) (r2 : (List MDrawn × MPot × Int)) : Nat → (Int × Int × Int × Int × Int) → Option (Lp (Int × Int) (Int × Int))
  | 0, _ => none
  | n + 1, b1 =>
    (bif decide (b1.2.2.2.2 < ((r2.1.length : Nat) : Int)) then
    (grd (((0 : Int) ≤ b1.2.2.2.2 ∧ (b1.2.2.2.2 : Int) < ((r2.1.length : Nat) : Int)) ∧ InI64 (b1.2.2.1 + ((r2.1.getD (Int.toNat b1.2.2.2.2) default).amount)) ∧ InI64 (b1.2.2.2.1 + (((r2.1.getD (Int.toNat b1.2.2.2.2) default).alcohol).lo))) <|
    grd (InI64 ((b1.2.2.2.1 + (((r2.1.getD (Int.toNat b1.2.2.2.2) default).alcohol).lo)) * 10000) ∧ InI64 (target * (b1.2.2.1 + ((r2.1.getD (Int.toNat b1.2.2.2.2) default).amount)))) <|
    (bif decide ((target * (b1.2.2.1 + ((r2.1.getD (Int.toNat b1.2.2.2.2) default).amount))) ≤ ((b1.2.2.2.1 + (((r2.1.getD (Int.toNat b1.2.2.2.2) default).alcohol).lo)) * 10000)) then
    (grd (InI64 (b1.2.2.2.2 + 1)) <|
    still_Heart_l1 target r2 n (0, b1.2.2.2.2, (b1.2.2.1 + ((r2.1.getD (Int.toNat b1.2.2.2.2) default).amount)), (b1.2.2.2.1 + (((r2.1.getD (Int.toNat b1.2.2.2.2) default).alcohol).lo)), (b1.2.2.2.2 + 1)))
    else
    (grd (InI64 (b1.2.2.2.2 + 1)) <|
    still_Heart_l1 target r2 n (b1.1, b1.2.1, (b1.2.2.1 + ((r2.1.getD (Int.toNat b1.2.2.2.2) default).amount)), (b1.2.2.2.1 + (((r2.1.getD (Int.toNat b1.2.2.2.2) default).alcohol).lo)), (b1.2.2.2.2 + 1)))))
    else
    (some (Lp.done (b1.1, b1.2.1))))
def still_Heart (fuel : Nat) (c : MCurve) (p : MPot) (amounts : List Int) (from' : Int) (target : Int) : Option (Int × Int) :=
(still_check fuel c (MPot.mk p.volume (MSpan.mk p.alcohol.lo p.alcohol.hi)) amounts).bind fun (r1 : Int) =>
(bif (r1 != 0) then
(some (0, r1))
else
((bif (((decide (from' < 0) || decide (((amounts.length : Nat) : Int) ≤ from')) || decide (target < 1)) || decide (10000 < target)) then
(some (0, 2))
else
((runOf fuel c (MPot.mk p.volume (MSpan.mk p.alcohol.lo p.alcohol.hi)) amounts).bind fun (r2 : (List MDrawn × MPot × Int)) =>
(bif (r2.2.2 != 0) then
(some (0, r2.2.2))
else
((still_Heart_l1 target r2 fuel (4, 0, 0, 0, from')).bind fun lr1 => lr1.go fun x1 => still_Heart_k1 x1))))))
set_option maxRecDepth 100000 in
set_option maxHeartbeats 4000000 in
theorem still_Heart_ok (fuel : Nat) (c : MCurve) (p : MPot) (amounts : List Int) (from' : Int) (target : Int) (W : World) (A0 : Option Addr) (c0 : Nat) (h0 : c.liquid.length ≤ c0) (s0 : SlAt W A0 c.liquid.length 1 fun i => [.int .i64 (c.liquid.getD i default)]) (A1 : Option Addr) (c1 : Nat) (h1 : c.vapour.length ≤ c1) (s1 : SlAt W A1 c.vapour.length 2 fun i => [.int .i64 ((c.vapour.getD i default).lo), .int .i64 ((c.vapour.getD i default).hi)]) (A2 : Option Addr) (c2 : Nat) (h2 : amounts.length ≤ c2) (s2 : SlAt W A2 amounts.length 1 fun i => [.int .i64 (amounts.getD i default)]) (res : Int × Int) (h : still_Heart fuel c p amounts from' target = some res) :
    Calls Go.Proofs.Try.prog 29 #[.agg #[.slice A0 c.liquid.length c0, .slice A1 c.vapour.length c1], .agg #[.int .i64 p.volume, .int .i64 p.alcohol.lo, .int .i64 p.alcohol.hi], .slice A2 amounts.length c2, .int .i64 from', .int .i64 target] W fun e w' => e = .returned (.tuple #[.int .i64 res.1, .int .i64 res.2]) ∧ Below W.heap.size W w' := by
  refine sym_call (f := 29) (fn := Go.Proofs.Try.f29) (c := Go.Proofs.Try.f29.body.get rfl) Go.Proofs.Try.func29 rfl [.agg [.sl 0, .sl 1], .agg [.v (.int .i64 p.volume), .v (.int .i64 p.alcohol.lo), .v (.int .i64 p.alcohol.hi)], .sl 2, .v (.int .i64 from'), .v (.int .i64 target)] (still_Heart_R c amounts) [] (envOf [(0, ⟨A0, c.liquid.length, c0, 1⟩), (1, ⟨A1, c.vapour.length, c1, 2⟩), (2, ⟨A2, amounts.length, c2, 1⟩)]) allR (fun _ _ => rfl) (by kernel_rfl) (envOf_one trivial) ⟨s0.rd h0, s1.rd h1, s2.rd h2, trivial⟩ (AllRR.all _ _) trivial fun E a w S => ?_
  rw [still_Heart] at h
  refine sym_seq lay_ok mixed [(0, { g := 0 }), (1, { g := 1 })] [2, 3, 4, 5, 6] [0, 1] (⟨[(2, .sl 2), (3, .v (.int .i64 from')), (4, .v (.int .i64 target)), (5, .own 0 0), (6, .own 1 0)], ⟨[(0, .blk 25 [.sl 0, .sl 1]), (1, .blk 29 [.v (.int .i64 p.volume), .v (.int .i64 p.alcohol.lo), .v (.int .i64 p.alcohol.hi)])], (still_Heart_R c amounts), []⟩⟩) [] S (by kernel_rfl) (by kernel_rfl) (by kernel_rfl) trivial ?_
  clear S; intro E a w S
  refine wp_seq ?_
  obtain ⟨r1, e1, h⟩ := bind_some h
  refine sym_seq lay_ok mixed [(3, { res := .v (.int .i64 r1) })] [2, 3, 4, 5, 6, 12] [0, 1] (⟨[(2, .sl 2), (3, .v (.int .i64 from')), (4, .v (.int .i64 target)), (5, .own 0 0), (6, .own 1 0), (12, .v (.int .i64 r1))], ⟨[(0, .blk 25 [.sl 0, .sl 1]), (1, .blk 29 [.v (.int .i64 p.volume), .v (.int .i64 p.alcohol.lo), .v (.int .i64 p.alcohol.hi)])], (still_Heart_R c amounts), []⟩⟩) [.call ⟨[], (still_Heart_R c amounts), []⟩ 53 [.agg [.sl 0, .sl 1], .agg [.v (.int .i64 p.volume), .v (.int .i64 p.alcohol.lo), .v (.int .i64 p.alcohol.hi)], .sl 2] (.v (.int .i64 r1))] S (by kernel_rfl) (by kernel_rfl) (by kernel_rfl) ⟨⟨enters_53, fun E W _ hm => by obtain ⟨A0, c0, q0, l0, s0, _⟩ := Mem.sl hm (s := 0) rfl; obtain ⟨A1, c1, q1, l1, s1, _⟩ := Mem.sl hm (s := 1) rfl; obtain ⟨A2, c2, q2, l2, s2, _⟩ := Mem.sl hm (s := 2) rfl; simp only [SV.vals, SV.val, q0, q1, q2]; exact still_check_ok fuel c (MPot.mk p.volume (MSpan.mk p.alcohol.lo p.alcohol.hi)) amounts W A0 c0 l0 s0 A1 c1 l1 s1 A2 c2 l2 s2 r1 e1⟩, trivial⟩ ?_
  clear S; intro E a w S
  refine sym_seq lay_ok mixed [] [2, 3, 4, 5, 6, 12, 25] [0, 1] (⟨[(2, .sl 2), (3, .v (.int .i64 from')), (4, .v (.int .i64 target)), (5, .own 0 0), (6, .own 1 0), (12, .v (.int .i64 r1)), (25, .v (.bool (r1 != 0)))], ⟨[(0, .blk 25 [.sl 0, .sl 1]), (1, .blk 29 [.v (.int .i64 p.volume), .v (.int .i64 p.alcohol.lo), .v (.int .i64 p.alcohol.hi)])], (still_Heart_R c amounts), []⟩⟩) [] S (by kernel_rfl) (by kernel_rfl) (by kernel_rfl) trivial ?_
  clear S; intro E a w S
  refine sym_if_last (b := (r1 != 0)) S rfl (fun hb1 => ?_) (fun hb1 => ?_)
  · have h := bif_t hb1 h
    refine sym_seq lay_ok mixed [] [10, 11] [] (⟨[(10, .v (.int .i64 0)), (11, .v (.int .i64 r1))], ⟨[], (still_Heart_R c amounts), []⟩⟩) [] S (by kernel_rfl) (by kernel_rfl) (by kernel_rfl) trivial ?_
    clear S; intro E a w S
    refine wp_ret ?_
    refine out_then_ret ?_
    have h := Option.some.inj h
    subst h
    exact sym_ret lay_ok [.v (.int .i64 0), .v (.int .i64 r1)] (by kernel_rfl) rfl S ⟨rfl, S.below rfl⟩
  · have h := bif_f hb1 h
    refine wp_skip ?_
    refine out_then_normal ?_
    refine wp_seq ?_
    refine sym_seq lay_ok mixed [(3, { og := true }), (4, { og := true }), (5, { og := true }), (6, { og := true }), (7, { pk := true }), (9, { og := true }), (10, { og := true }), (11, { pk := true }), (13, { og := true }), (14, { og := true }), (15, { pk := true })] [2, 3, 4, 5, 6, 42] [0, 1] (⟨[(2, .sl 2), (3, .v (.int .i64 from')), (4, .v (.int .i64 target)), (5, .own 0 0), (6, .own 1 0), (42, .v (.bool (((decide (from' < 0) || decide (((amounts.length : Nat) : Int) ≤ from')) || decide (target < 1)) || decide (10000 < target))))], ⟨[(0, .blk 25 [.sl 0, .sl 1]), (1, .blk 29 [.v (.int .i64 p.volume), .v (.int .i64 p.alcohol.lo), .v (.int .i64 p.alcohol.hi)])], (still_Heart_R c amounts), []⟩⟩) [.imp (!(decide (from' < 0))) (!(decide (from' < 0))), .imp (!(decide (from' < 0))) (!(decide (from' < 0))), .imp (!(decide (from' < 0))) (!(decide (from' < 0))), .imp (!(decide (from' < 0))) (!(decide (from' < 0))), .imp (!(decide (from' < 0) || decide (((amounts.length : Nat) : Int) ≤ from'))) (!(decide (from' < 0) || decide (((amounts.length : Nat) : Int) ≤ from'))), .imp (!(decide (from' < 0) || decide (((amounts.length : Nat) : Int) ≤ from'))) (!(decide (from' < 0) || decide (((amounts.length : Nat) : Int) ≤ from'))), .imp (!((decide (from' < 0) || decide (((amounts.length : Nat) : Int) ≤ from')) || decide (target < 1))) (!((decide (from' < 0) || decide (((amounts.length : Nat) : Int) ≤ from')) || decide (target < 1))), .imp (!((decide (from' < 0) || decide (((amounts.length : Nat) : Int) ≤ from')) || decide (target < 1))) (!((decide (from' < 0) || decide (((amounts.length : Nat) : Int) ≤ from')) || decide (target < 1)))] S (by kernel_rfl) (by kernel_rfl) (by kernel_rfl) ⟨fun h => h, fun h => h, fun h => h, fun h => h, fun h => h, fun h => h, fun h => h, fun h => h, trivial⟩ ?_
    clear S; intro E a w S
    refine sym_if_last (b := (((decide (from' < 0) || decide (((amounts.length : Nat) : Int) ≤ from')) || decide (target < 1)) || decide (10000 < target))) S rfl (fun hb2 => ?_) (fun hb2 => ?_)
    · have h := bif_t hb2 h
      refine sym_seq lay_ok mixed [] [10, 11] [] (⟨[(10, .v (.int .i64 0)), (11, .v (.int .i64 2))], ⟨[], (still_Heart_R c amounts), []⟩⟩) [] S (by kernel_rfl) (by kernel_rfl) (by kernel_rfl) trivial ?_
      clear S; intro E a w S
      refine wp_ret ?_
      refine out_then_ret ?_
      have h := Option.some.inj h
      subst h
      exact sym_ret lay_ok [.v (.int .i64 0), .v (.int .i64 2)] (by kernel_rfl) rfl S ⟨rfl, S.below rfl⟩
    · have h := bif_f hb2 h
      refine wp_skip ?_
      refine out_then_normal ?_
      obtain ⟨r2, e2, h⟩ := bind_some h
      refine sym_seq lay_ok mixed [(3, { g := 2, res := .tup [.ltr 2 0, .agg [.v (.int .i64 r2.2.1.volume), .v (.int .i64 r2.2.1.alcohol.lo), .v (.int .i64 r2.2.1.alcohol.hi)], .v (.int .i64 r2.2.2)], hx := some (SlicesAre 0 [⟨r2.1.length, 3, fun i => [.int .i64 ((r2.1.getD i default).amount), .int .i64 (((r2.1.getD i default).alcohol).lo), .int .i64 (((r2.1.getD i default).alcohol).hi)]⟩]) }), (8, { g := 3 })] [3, 4, 13, 15] [2] (⟨[(3, .v (.int .i64 from')), (4, .v (.int .i64 target)), (13, .ltr 2 0), (15, .v (.int .i64 r2.2.2))], ⟨[(2, .held (SlicesAre 0 [⟨r2.1.length, 3, fun i => [.int .i64 ((r2.1.getD i default).amount), .int .i64 (((r2.1.getD i default).alcohol).lo), .int .i64 (((r2.1.getD i default).alcohol).hi)]⟩]))], (still_Heart_R c amounts), []⟩⟩) [.callx ⟨[], (still_Heart_R c amounts), []⟩ 2 22 [.agg [.sl 0, .sl 1], .agg [.v (.int .i64 p.volume), .v (.int .i64 p.alcohol.lo), .v (.int .i64 p.alcohol.hi)], .sl 2] (.tup [.ltr 2 0, .agg [.v (.int .i64 r2.2.1.volume), .v (.int .i64 r2.2.1.alcohol.lo), .v (.int .i64 r2.2.1.alcohol.hi)], .v (.int .i64 r2.2.2)]) (SlicesAre 0 [⟨r2.1.length, 3, fun i => [.int .i64 ((r2.1.getD i default).amount), .int .i64 (((r2.1.getD i default).alcohol).lo), .int .i64 (((r2.1.getD i default).alcohol).hi)]⟩])] S (by kernel_rfl) (by kernel_rfl) (by kernel_rfl) ⟨⟨enters_22, fun E W _ hm => by obtain ⟨A0, c0, q0, l0, s0, _⟩ := Mem.sl hm (s := 0) rfl; obtain ⟨A1, c1, q1, l1, s1, _⟩ := Mem.sl hm (s := 1) rfl; obtain ⟨A2, c2, q2, l2, s2, _⟩ := Mem.sl hm (s := 2) rfl; simp only [SV.vals, SV.val, q0, q1, q2]; exact ((runOf_ok fuel c (MPot.mk p.volume (MSpan.mk p.alcohol.lo p.alcohol.hi)) amounts W A0 c0 l0 s0 A1 c1 l1 s1 A2 c2 l2 s2 r2 e2).mono fun e w' hx => by obtain ⟨v, h1, h2, h3, h4⟩ := hx; exact ⟨v, h1, h2, h3, h4.mono fun _ _ h => .inl h⟩)⟩, trivial⟩ ?_
      clear S; intro E a w S
      obtain ⟨E, S⟩ := St.read 2 0 1003 ⟨r2.1.length, 3, fun i => [.int .i64 ((r2.1.getD i default).amount), .int .i64 (((r2.1.getD i default).alcohol).lo), .int .i64 (((r2.1.getD i default).alcohol).hi)]⟩ (⟨[(3, .v (.int .i64 from')), (4, .v (.int .i64 target)), (13, .sl 1003), (15, .v (.int .i64 r2.2.2))], ⟨[(2, .held (SlicesAre 0 [⟨r2.1.length, 3, fun i => [.int .i64 ((r2.1.getD i default).amount), .int .i64 (((r2.1.getD i default).alcohol).lo), .int .i64 (((r2.1.getD i default).alcohol).hi)]⟩]))], ((1003, ⟨r2.1.length, 3, fun i => [.int .i64 ((r2.1.getD i default).amount), .int .i64 (((r2.1.getD i default).alcohol).lo), .int .i64 (((r2.1.getD i default).alcohol).hi)]⟩) :: (still_Heart_R c amounts)), []⟩⟩) rfl (fun v w h => h.1) (by intro _ h; cases h) (by kernel_rfl) (by kernel_rfl) S
      refine wp_seq ?_
      refine sym_seq lay_ok mixed [] [3, 4, 13, 15, 52] [] (⟨[(3, .v (.int .i64 from')), (4, .v (.int .i64 target)), (13, .sl 1003), (15, .v (.int .i64 r2.2.2)), (52, .v (.bool (r2.2.2 != 0)))], ⟨[], ((1003, ⟨r2.1.length, 3, fun i => [.int .i64 ((r2.1.getD i default).amount), .int .i64 (((r2.1.getD i default).alcohol).lo), .int .i64 (((r2.1.getD i default).alcohol).hi)]⟩) :: (still_Heart_R c amounts)), []⟩⟩) [] S (by kernel_rfl) (by kernel_rfl) (by kernel_rfl) trivial ?_
      clear S; intro E a w S
      refine sym_if_last (b := (r2.2.2 != 0)) S rfl (fun hb3 => ?_) (fun hb3 => ?_)
      · have h := bif_t hb3 h
        refine sym_seq lay_ok mixed [] [10, 11] [] (⟨[(10, .v (.int .i64 0)), (11, .v (.int .i64 r2.2.2))], ⟨[], ((1003, ⟨r2.1.length, 3, fun i => [.int .i64 ((r2.1.getD i default).amount), .int .i64 (((r2.1.getD i default).alcohol).lo), .int .i64 (((r2.1.getD i default).alcohol).hi)]⟩) :: (still_Heart_R c amounts)), []⟩⟩) [] S (by kernel_rfl) (by kernel_rfl) (by kernel_rfl) trivial ?_
        clear S; intro E a w S
        refine wp_ret ?_
        refine out_then_ret ?_
        have h := Option.some.inj h
        subst h
        exact sym_ret lay_ok [.v (.int .i64 0), .v (.int .i64 r2.2.2)] (by kernel_rfl) rfl S ⟨rfl, S.below rfl⟩
      · have h := bif_f hb3 h
        refine wp_skip ?_
        refine out_then_normal ?_
        refine sym_seq lay_ok mixed [] [3, 4, 13, 15, 16] [] (⟨[(3, .v (.int .i64 from')), (4, .v (.int .i64 target)), (13, .sl 1003), (15, .v (.int .i64 4)), (16, .v (.int .i64 0))], ⟨[], ((1003, ⟨r2.1.length, 3, fun i => [.int .i64 ((r2.1.getD i default).amount), .int .i64 (((r2.1.getD i default).alcohol).lo), .int .i64 (((r2.1.getD i default).alcohol).hi)]⟩) :: (still_Heart_R c amounts)), []⟩⟩) [] S (by kernel_rfl) (by kernel_rfl) (by kernel_rfl) trivial ?_
        clear S; intro E a w S
        refine sym_seq lay_ok mixed [] [3, 4, 13, 15, 16, 17, 18] [] (⟨[(3, .v (.int .i64 from')), (4, .v (.int .i64 target)), (13, .sl 1003), (15, .v (.int .i64 4)), (16, .v (.int .i64 0)), (17, .v (.int .i64 0)), (18, .v (.int .i64 0))], ⟨[], ((1003, ⟨r2.1.length, 3, fun i => [.int .i64 ((r2.1.getD i default).amount), .int .i64 (((r2.1.getD i default).alcohol).lo), .int .i64 (((r2.1.getD i default).alcohol).hi)]⟩) :: (still_Heart_R c amounts)), []⟩⟩) [] S (by kernel_rfl) (by kernel_rfl) (by kernel_rfl) trivial ?_
        clear S; intro E a w S
        refine wp_seq ?_
        refine sym_seq lay_ok mixed [] [4, 13, 15, 16, 17, 18, 19] [] (⟨[(4, .v (.int .i64 target)), (13, .sl 1003), (15, .v (.int .i64 4)), (16, .v (.int .i64 0)), (17, .v (.int .i64 0)), (18, .v (.int .i64 0)), (19, .v (.int .i64 from'))], ⟨[], ((1003, ⟨r2.1.length, 3, fun i => [.int .i64 ((r2.1.getD i default).amount), .int .i64 (((r2.1.getD i default).alcohol).lo), .int .i64 (((r2.1.getD i default).alcohol).hi)]⟩) :: (still_Heart_R c amounts)), []⟩⟩) [] S (by kernel_rfl) (by kernel_rfl) (by kernel_rfl) trivial ?_
        clear S; intro E a w S
        obtain ⟨lr1, e3, hp1⟩ := bind_some h
        clear h
        refine sym_block_last (G := fun a w => ∃ E, ∃ x1 : Int × Int, still_Heart_k1 x1 = some res ∧ St ⟨W, noC, Go.Proofs.Try.f29.ntmps, [], allR, noρ, (envOf [(0, ⟨A0, c.liquid.length, c0, 1⟩), (1, ⟨A1, c.vapour.length, c1, 2⟩), (2, ⟨A2, amounts.length, c2, 1⟩)]).sl, (envOf [(0, ⟨A0, c.liquid.length, c0, 1⟩), (1, ⟨A1, c.vapour.length, c1, 2⟩), (2, ⟨A2, amounts.length, c2, 1⟩)]).x⟩ (⟨[(15, .v (.int .i64 x1.1)), (16, .v (.int .i64 x1.2))], ⟨[], ((1003, ⟨r2.1.length, 3, fun i => [.int .i64 ((r2.1.getD i default).amount), .int .i64 (((r2.1.getD i default).alcohol).lo), .int .i64 (((r2.1.getD i default).alcohol).hi)]⟩) :: (still_Heart_R c amounts)), []⟩⟩) E a w) ?_ ?_
        · refine wp_loop_rounds fuel ?_
          refine sym_rounds (F := fun n b1 => still_Heart_l1 target r2 n b1 = some lr1) (H := fun b1 => ⟨[(4, .v (.int .i64 target)), (13, .sl 1003), (15, .v (.int .i64 b1.1)), (16, .v (.int .i64 b1.2.1)), (17, .v (.int .i64 b1.2.2.1)), (18, .v (.int .i64 b1.2.2.2.1)), (19, .v (.int .i64 b1.2.2.2.2))], ⟨[], ((1003, ⟨r2.1.length, 3, fun i => [.int .i64 ((r2.1.getD i default).amount), .int .i64 (((r2.1.getD i default).alcohol).lo), .int .i64 (((r2.1.getD i default).alcohol).hi)]⟩) :: (still_Heart_R c amounts)), []⟩⟩) (4, 0, 0, 0, from') (fun b hb => by have hb : none = some lr1 := hb; cases hb) ?_ _ _ _ _ e3 (St.cast (P := Go.Proofs.Try.prog) [] [] [4, 13, 15, 16, 17, 18, 19] [] [1003, 0, 1, 2] _ [] (by kernel_rfl) trivial S)
          clear e3 S
          intro n b1 E a w h ih S
          rw [still_Heart_l1] at h
          refine wp_seq ?_
          refine sym_seq lay_ok mixed [] [4, 13, 15, 16, 17, 18, 19, 58] [] (⟨[(4, .v (.int .i64 target)), (13, .sl 1003), (15, .v (.int .i64 b1.1)), (16, .v (.int .i64 b1.2.1)), (17, .v (.int .i64 b1.2.2.1)), (18, .v (.int .i64 b1.2.2.2.1)), (19, .v (.int .i64 b1.2.2.2.2)), (58, .v (.bool (decide (b1.2.2.2.2 < ((r2.1.length : Nat) : Int)))))], ⟨[], ((1003, ⟨r2.1.length, 3, fun i => [.int .i64 ((r2.1.getD i default).amount), .int .i64 (((r2.1.getD i default).alcohol).lo), .int .i64 (((r2.1.getD i default).alcohol).hi)]⟩) :: (still_Heart_R c amounts)), []⟩⟩) [] S (by kernel_rfl) (by kernel_rfl) (by kernel_rfl) trivial ?_
          clear S; intro E a w S
          refine sym_if_last (b := decide (b1.2.2.2.2 < ((r2.1.length : Nat) : Int))) S rfl (fun hb4 => ?_) (fun hb4 => ?_)
          · have h := bif_t hb4 h
            refine wp_skip ?_
            refine out_then_normal ?_
            refine wp_seq ?_
            refine wp_block ?_
            obtain ⟨⟨g1, g2, g3⟩, h⟩ := grd_some h
            refine sym_seq lay_ok mixed [] [4, 13, 15, 16, 17, 18, 19] [] (⟨[(4, .v (.int .i64 target)), (13, .sl 1003), (15, .v (.int .i64 b1.1)), (16, .v (.int .i64 b1.2.1)), (17, .v (.int .i64 (b1.2.2.1 + ((r2.1.getD (Int.toNat b1.2.2.2.2) default).amount)))), (18, .v (.int .i64 (b1.2.2.2.1 + (((r2.1.getD (Int.toNat b1.2.2.2.2) default).alcohol).lo)))), (19, .v (.int .i64 b1.2.2.2.2))], ⟨[], ((1003, ⟨r2.1.length, 3, fun i => [.int .i64 ((r2.1.getD i default).amount), .int .i64 (((r2.1.getD i default).alcohol).lo), .int .i64 (((r2.1.getD i default).alcohol).hi)]⟩) :: (still_Heart_R c amounts)), []⟩⟩) [.idx b1.2.2.2.2 r2.1.length, .idx b1.2.2.2.2 r2.1.length, .idx b1.2.2.2.2 r2.1.length, .rng .i64 (b1.2.2.1 + ((r2.1.getD (Int.toNat b1.2.2.2.2) default).amount)), .idx b1.2.2.2.2 r2.1.length, .idx b1.2.2.2.2 r2.1.length, .idx b1.2.2.2.2 r2.1.length, .idx b1.2.2.2.2 r2.1.length, .rng .i64 (b1.2.2.2.1 + (((r2.1.getD (Int.toNat b1.2.2.2.2) default).alcohol).lo))] S (by kernel_rfl) (by kernel_rfl) (by kernel_rfl) ⟨g1, g1, g1, rngI64 g2, g1, g1, g1, g1, rngI64 g3, trivial⟩ ?_
            clear S; intro E a w S
            obtain ⟨⟨g4, g5⟩, h⟩ := grd_some h
            refine sym_seq lay_ok mixed [] [4, 13, 15, 16, 17, 18, 19, 81] [] (⟨[(4, .v (.int .i64 target)), (13, .sl 1003), (15, .v (.int .i64 b1.1)), (16, .v (.int .i64 b1.2.1)), (17, .v (.int .i64 (b1.2.2.1 + ((r2.1.getD (Int.toNat b1.2.2.2.2) default).amount)))), (18, .v (.int .i64 (b1.2.2.2.1 + (((r2.1.getD (Int.toNat b1.2.2.2.2) default).alcohol).lo)))), (19, .v (.int .i64 b1.2.2.2.2)), (81, .v (.bool (decide ((target * (b1.2.2.1 + ((r2.1.getD (Int.toNat b1.2.2.2.2) default).amount))) ≤ ((b1.2.2.2.1 + (((r2.1.getD (Int.toNat b1.2.2.2.2) default).alcohol).lo)) * 10000)))))], ⟨[], ((1003, ⟨r2.1.length, 3, fun i => [.int .i64 ((r2.1.getD i default).amount), .int .i64 (((r2.1.getD i default).alcohol).lo), .int .i64 (((r2.1.getD i default).alcohol).hi)]⟩) :: (still_Heart_R c amounts)), []⟩⟩) [.rng .i64 ((b1.2.2.2.1 + (((r2.1.getD (Int.toNat b1.2.2.2.2) default).alcohol).lo)) * 10000), .rng .i64 (target * (b1.2.2.1 + ((r2.1.getD (Int.toNat b1.2.2.2.2) default).amount)))] S (by kernel_rfl) (by kernel_rfl) (by kernel_rfl) ⟨rngI64 g4, rngI64 g5, trivial⟩ ?_
            clear S; intro E a w S
            refine sym_if_last (b := decide ((target * (b1.2.2.1 + ((r2.1.getD (Int.toNat b1.2.2.2.2) default).amount))) ≤ ((b1.2.2.2.1 + (((r2.1.getD (Int.toNat b1.2.2.2.2) default).alcohol).lo)) * 10000))) S rfl (fun hb5 => ?_) (fun hb5 => ?_)
            · have h := bif_t hb5 h
              refine sym_last lay_ok mixed [] [4, 13, 15, 16, 17, 18, 19] [] (⟨[(4, .v (.int .i64 target)), (13, .sl 1003), (15, .v (.int .i64 0)), (16, .v (.int .i64 b1.2.2.2.2)), (17, .v (.int .i64 (b1.2.2.1 + ((r2.1.getD (Int.toNat b1.2.2.2.2) default).amount)))), (18, .v (.int .i64 (b1.2.2.2.1 + (((r2.1.getD (Int.toNat b1.2.2.2.2) default).alcohol).lo)))), (19, .v (.int .i64 b1.2.2.2.2))], ⟨[], ((1003, ⟨r2.1.length, 3, fun i => [.int .i64 ((r2.1.getD i default).amount), .int .i64 (((r2.1.getD i default).alcohol).lo), .int .i64 (((r2.1.getD i default).alcohol).hi)]⟩) :: (still_Heart_R c amounts)), []⟩⟩) [] S (by kernel_rfl) (by kernel_rfl) (by kernel_rfl) trivial ?_
              clear S; intro E a w S
              refine out_block_normal ?_
              refine out_then_normal ?_
              obtain ⟨g6, h⟩ := grd_some h
              refine sym_last lay_ok mixed [] [4, 13, 15, 16, 17, 18, 19] [] (⟨[(4, .v (.int .i64 target)), (13, .sl 1003), (15, .v (.int .i64 0)), (16, .v (.int .i64 b1.2.2.2.2)), (17, .v (.int .i64 (b1.2.2.1 + ((r2.1.getD (Int.toNat b1.2.2.2.2) default).amount)))), (18, .v (.int .i64 (b1.2.2.2.1 + (((r2.1.getD (Int.toNat b1.2.2.2.2) default).alcohol).lo)))), (19, .v (.int .i64 (b1.2.2.2.2 + 1)))], ⟨[], ((1003, ⟨r2.1.length, 3, fun i => [.int .i64 ((r2.1.getD i default).amount), .int .i64 (((r2.1.getD i default).alcohol).lo), .int .i64 (((r2.1.getD i default).alcohol).hi)]⟩) :: (still_Heart_R c amounts)), []⟩⟩) [.rng .i64 (b1.2.2.2.2 + 1)] S (by kernel_rfl) (by kernel_rfl) (by kernel_rfl) ⟨rngI64 g6, trivial⟩ ?_
              clear S; intro E a w S
              refine out_then_normal ?_
              exact ih (0, b1.2.2.2.2, (b1.2.2.1 + ((r2.1.getD (Int.toNat b1.2.2.2.2) default).amount)), (b1.2.2.2.1 + (((r2.1.getD (Int.toNat b1.2.2.2.2) default).alcohol).lo)), (b1.2.2.2.2 + 1)) _ _ _ h (St.cast (P := Go.Proofs.Try.prog) [] [] [4, 13, 15, 16, 17, 18, 19] [] [1003, 0, 1, 2] _ [] (by kernel_rfl) trivial S)
            · have h := bif_f hb5 h
              refine wp_skip ?_
              refine out_block_normal ?_
              refine out_then_normal ?_
              obtain ⟨g7, h⟩ := grd_some h
              refine sym_last lay_ok mixed [] [4, 13, 15, 16, 17, 18, 19] [] (⟨[(4, .v (.int .i64 target)), (13, .sl 1003), (15, .v (.int .i64 b1.1)), (16, .v (.int .i64 b1.2.1)), (17, .v (.int .i64 (b1.2.2.1 + ((r2.1.getD (Int.toNat b1.2.2.2.2) default).amount)))), (18, .v (.int .i64 (b1.2.2.2.1 + (((r2.1.getD (Int.toNat b1.2.2.2.2) default).alcohol).lo)))), (19, .v (.int .i64 (b1.2.2.2.2 + 1)))], ⟨[], ((1003, ⟨r2.1.length, 3, fun i => [.int .i64 ((r2.1.getD i default).amount), .int .i64 (((r2.1.getD i default).alcohol).lo), .int .i64 (((r2.1.getD i default).alcohol).hi)]⟩) :: (still_Heart_R c amounts)), []⟩⟩) [.rng .i64 (b1.2.2.2.2 + 1)] S (by kernel_rfl) (by kernel_rfl) (by kernel_rfl) ⟨rngI64 g7, trivial⟩ ?_
              clear S; intro E a w S
              refine out_then_normal ?_
              exact ih (b1.1, b1.2.1, (b1.2.2.1 + ((r2.1.getD (Int.toNat b1.2.2.2.2) default).amount)), (b1.2.2.2.1 + (((r2.1.getD (Int.toNat b1.2.2.2.2) default).alcohol).lo)), (b1.2.2.2.2 + 1)) _ _ _ h (St.cast (P := Go.Proofs.Try.prog) [] [] [4, 13, 15, 16, 17, 18, 19] [] [1003, 0, 1, 2] _ [] (by kernel_rfl) trivial S)
          · have h := bif_f hb4 h
            refine wp_exit ?_
            refine out_then_exit ?_
            refine out_then_exit ?_
            refine out_block_here ?_
            refine out_then_normal ?_
            have hr := Option.some.inj h
            subst hr
            exact ⟨_, (b1.1, b1.2.1), hp1, St.cast (P := Go.Proofs.Try.prog) [] [] [15, 16] [] [1003, 0, 1, 2] _ [] (by kernel_rfl) trivial S⟩
        clear e3 S
        rintro a w ⟨E, x1, h, S⟩
        rw [still_Heart_k1] at h
        refine out_then_normal ?_
        refine sym_seq lay_ok mixed [] [10, 11] [] (⟨[(10, .v (.int .i64 x1.2)), (11, .v (.int .i64 x1.1))], ⟨[], ((1003, ⟨r2.1.length, 3, fun i => [.int .i64 ((r2.1.getD i default).amount), .int .i64 (((r2.1.getD i default).alcohol).lo), .int .i64 (((r2.1.getD i default).alcohol).hi)]⟩) :: (still_Heart_R c amounts)), []⟩⟩) [] S (by kernel_rfl) (by kernel_rfl) (by kernel_rfl) trivial ?_
        clear S; intro E a w S
        refine wp_ret ?_
        have h := Option.some.inj h
        subst h
        exact sym_ret lay_ok [.v (.int .i64 x1.2), .v (.int .i64 x1.1)] (by kernel_rfl) rfl S ⟨rfl, S.below rfl⟩
def wormtubref04_Run_R (c : MCurve) (l : List Int) : List (Nat × Q) := [(0, ⟨c.liquid.length, 1, fun i => [.int .i64 (c.liquid.getD i default)]⟩), (1, ⟨c.vapour.length, 2, fun i => [.int .i64 ((c.vapour.getD i default).lo), .int .i64 ((c.vapour.getD i default).hi)]⟩), (2, ⟨l.length, 1, fun i => [.int .i64 (l.getD i default)]⟩)]
def wormtubref04_Run_k1  (x1 : Int × Int × Int × List MDrawn) : Option (List MDrawn × MPot × Int) :=
some (x1.2.2.2, (MPot.mk x1.1 (MSpan.mk x1.2.1 x1.2.2.1)), 0)
def wormtubref04_Run_l1 (fuel : Nat) (c : MCurve) (l : List Int) : Nat → (Int × Int × Int × Int × List MDrawn) → Option (Lp (Int × Int × Int × List MDrawn) (List MDrawn × MPot × Int))
  | 0, _ => none
  | n + 1, b1 =>
    (bif decide (b1.1 < ((l.length : Nat) : Int)) then
    (grd (((0 : Int) ≤ b1.1 ∧ (b1.1 : Int) < ((l.length : Nat) : Int))) <|
    (wormtubref04_Draw fuel c (MPot.mk b1.2.1 (MSpan.mk b1.2.2.1 b1.2.2.2.1)) (l.getD (Int.toNat b1.1) default)).bind fun (r3 : (MDrawn × MPot × Int)) =>
    (bif (r3.2.2 != 0) then
    (some (Lp.ret ([], (MPot.mk 0 (MSpan.mk 0 0)), r3.2.2)))
    else
    (grd ((b1.2.2.2.2.length + 1 ≤ 1000000)) <|
    grd (InI64 (b1.1 + 1)) <|
    wormtubref04_Run_l1 fuel c l n ((b1.1 + 1), r3.2.1.volume, r3.2.1.alcohol.lo, r3.2.1.alcohol.hi, (b1.2.2.2.2 ++ [(MDrawn.mk r3.1.amount (MSpan.mk r3.1.alcohol.lo r3.1.alcohol.hi))])))))
    else
    (some (Lp.done (b1.2.1, b1.2.2.1, b1.2.2.2.1, b1.2.2.2.2))))
def wormtubref04_Run (fuel : Nat) (c : MCurve) (p : MPot) (l : List Int) : Option (List MDrawn × MPot × Int) :=
(bif decide (64 < ((l.length : Nat) : Int)) then
(some ([], (MPot.mk 0 (MSpan.mk 0 0)), 3))
else
((wormtubref04_Curve fuel c).bind fun (r1 : Bool) =>
((bif (!(!r1)) then wormtubref04_Pot (MPot.mk p.volume (MSpan.mk p.alcohol.lo p.alcohol.hi)) else some default)).bind fun (r2 : Bool) =>
(bif ((!r1) || (!r2)) then
(some ([], (MPot.mk 0 (MSpan.mk 0 0)), 1))
else
((wormtubref04_Run_l1 fuel c l fuel (0, p.volume, p.alcohol.lo, p.alcohol.hi, ([] : List MDrawn))).bind fun lr1 => lr1.go fun x1 => wormtubref04_Run_k1 x1))))
set_option maxRecDepth 100000 in
set_option maxHeartbeats 4000000 in
theorem wormtubref04_Run_ok (fuel : Nat) (c : MCurve) (p : MPot) (l : List Int) (W : World) (A0 : Option Addr) (c0 : Nat) (h0 : c.liquid.length ≤ c0) (s0 : SlAt W A0 c.liquid.length 1 fun i => [.int .i64 (c.liquid.getD i default)]) (A1 : Option Addr) (c1 : Nat) (h1 : c.vapour.length ≤ c1) (s1 : SlAt W A1 c.vapour.length 2 fun i => [.int .i64 ((c.vapour.getD i default).lo), .int .i64 ((c.vapour.getD i default).hi)]) (A2 : Option Addr) (c2 : Nat) (h2 : l.length ≤ c2) (s2 : SlAt W A2 l.length 1 fun i => [.int .i64 (l.getD i default)]) (res : List MDrawn × MPot × Int) (h : wormtubref04_Run fuel c p l = some res) :
    Calls Go.Proofs.Try.prog 23 #[.agg #[.slice A0 c.liquid.length c0, .slice A1 c.vapour.length c1], .agg #[.int .i64 p.volume, .int .i64 p.alcohol.lo, .int .i64 p.alcohol.hi], .slice A2 l.length c2] W fun e w' => ∃ v : Nat → Value, e = .returned (.tuple #[v 0, .agg #[.int .i64 res.2.1.volume, .int .i64 res.2.1.alcohol.lo, .int .i64 res.2.1.alcohol.hi], .int .i64 res.2.2]) ∧ Below W.heap.size W w' ∧ (∀ i, (v i).oneCell' = true) ∧ HeldIn (fun k => W.heap.size ≤ k) w' (SlicesAre 0 [⟨res.1.length, 3, fun i => [.int .i64 ((res.1.getD i default).amount), .int .i64 (((res.1.getD i default).alcohol).lo), .int .i64 (((res.1.getD i default).alcohol).hi)]⟩] v) := by
  refine sym_call (f := 23) (fn := Go.Proofs.Try.f23) (c := Go.Proofs.Try.f23.body.get rfl) Go.Proofs.Try.func23 rfl [.agg [.sl 0, .sl 1], .agg [.v (.int .i64 p.volume), .v (.int .i64 p.alcohol.lo), .v (.int .i64 p.alcohol.hi)], .sl 2] (wormtubref04_Run_R c l) [] (envOf [(0, ⟨A0, c.liquid.length, c0, 1⟩), (1, ⟨A1, c.vapour.length, c1, 2⟩), (2, ⟨A2, l.length, c2, 1⟩)]) allR (fun _ _ => rfl) (by kernel_rfl) (envOf_one trivial) ⟨s0.rd h0, s1.rd h1, s2.rd h2, trivial⟩ (AllRR.all _ _) trivial fun E a w S => ?_
  rw [wormtubref04_Run] at h
  refine sym_seq lay_ok mixed [(0, { g := 0 }), (1, { g := 1 }), (3, { g := 2 })] [2, 3, 4, 7] [0, 1, 2] (⟨[(2, .sl 2), (3, .own 0 0), (4, .own 1 0), (7, .own 2 0)], ⟨[(0, .blk 25 [.sl 0, .sl 1]), (1, .blk 29 [.v (.int .i64 p.volume), .v (.int .i64 p.alcohol.lo), .v (.int .i64 p.alcohol.hi)]), (2, .blk 29 [.v (.int .i64 0), .v (.int .i64 0), .v (.int .i64 0)])], (wormtubref04_Run_R c l), []⟩⟩) [] S (by kernel_rfl) (by kernel_rfl) (by kernel_rfl) trivial ?_
  clear S; intro E a w S
  refine wp_seq ?_
  refine sym_seq lay_ok mixed [] [2, 3, 4, 7, 16] [0, 1, 2] (⟨[(2, .sl 2), (3, .own 0 0), (4, .own 1 0), (7, .own 2 0), (16, .v (.bool (decide (64 < ((l.length : Nat) : Int)))))], ⟨[(0, .blk 25 [.sl 0, .sl 1]), (1, .blk 29 [.v (.int .i64 p.volume), .v (.int .i64 p.alcohol.lo), .v (.int .i64 p.alcohol.hi)]), (2, .blk 29 [.v (.int .i64 0), .v (.int .i64 0), .v (.int .i64 0)])], (wormtubref04_Run_R c l), []⟩⟩) [] S (by kernel_rfl) (by kernel_rfl) (by kernel_rfl) trivial ?_
  clear S; intro E a w S
  refine sym_if_last (b := decide (64 < ((l.length : Nat) : Int))) S rfl (fun hb1 => ?_) (fun hb1 => ?_)
  · have h := bif_t hb1 h
    refine sym_seq lay_ok mixed [] [7, 6, 8] [2] (⟨[(7, .own 2 0), (6, .v (.slice none 0 0)), (8, .v (.int .i64 3))], ⟨[(2, .blk 29 [.v (.int .i64 0), .v (.int .i64 0), .v (.int .i64 0)])], (wormtubref04_Run_R c l), []⟩⟩) [] S (by kernel_rfl) (by kernel_rfl) (by kernel_rfl) trivial ?_
    clear S; intro E a w S
    refine wp_ret ?_
    refine out_then_ret ?_
    have h := Option.some.inj h
    subst h
    exact sym_ret lay_ok [.v (.slice none 0 0), .agg [.v (.int .i64 0), .v (.int .i64 0), .v (.int .i64 0)], .v (.int .i64 3)] (by kernel_rfl) rfl S ⟨vfun [.slice none 0 0], rfl, S.below rfl, vfun_one [.slice none 0 0] ⟨rfl, trivial⟩, ((HeldIn.true fun _ => ⟨_, _, rfl, Nat.le_refl _, SlAt.nil⟩).and (HeldIn.true fun _ => trivial))⟩
  · have h := bif_f hb1 h
    refine wp_skip ?_
    refine out_then_normal ?_
    refine wp_seq ?_
    obtain ⟨r1, e1, h⟩ := bind_some h
    obtain ⟨r2, e2, h⟩ := bind_some h
    refine sym_seq lay_ok mixed [(1, { res := .v (.bool r1) }), (4, { og := true }), (5, { og := true, res := .v (.bool r2) }), (6, { og := true }), (7, { pk := true })] [2, 3, 4, 7, 25] [0, 1, 2] (⟨[(2, .sl 2), (3, .own 0 0), (4, .own 1 0), (7, .own 2 0), (25, .v (.bool ((!r1) || (!r2))))], ⟨[(0, .blk 25 [.sl 0, .sl 1]), (1, .blk 29 [.v (.int .i64 p.volume), .v (.int .i64 p.alcohol.lo), .v (.int .i64 p.alcohol.hi)]), (2, .blk 29 [.v (.int .i64 0), .v (.int .i64 0), .v (.int .i64 0)])], (wormtubref04_Run_R c l), []⟩⟩) [.call ⟨[], (wormtubref04_Run_R c l), []⟩ 39 [.agg [.sl 0, .sl 1]] (.v (.bool r1)), .imp (!(!r1)) (!(!r1)), .when (!(!r1)) (.call ⟨[], (wormtubref04_Run_R c l), []⟩ 40 [.agg [.v (.int .i64 p.volume), .v (.int .i64 p.alcohol.lo), .v (.int .i64 p.alcohol.hi)]] (.v (.bool r2))), .imp (!(!r1)) (!(!r1)), .imp (!(!r1)) (!(!r1))] S (by kernel_rfl) (by kernel_rfl) (by kernel_rfl) ⟨⟨enters_39, fun E W _ hm => by obtain ⟨A0, c0, q0, l0, s0, _⟩ := Mem.sl hm (s := 0) rfl; obtain ⟨A1, c1, q1, l1, s1, _⟩ := Mem.sl hm (s := 1) rfl; simp only [SV.vals, SV.val, q0, q1]; exact wormtubref04_Curve_ok fuel c W A0 c0 l0 s0 A1 c1 l1 s1 r1 e1⟩, fun h => h, fun hW => ⟨enters_40, fun _ W _ _ => wormtubref04_Pot_ok (MPot.mk p.volume (MSpan.mk p.alcohol.lo p.alcohol.hi)) W r2 (bif_t hW e2)⟩, fun h => h, fun h => h, trivial⟩ ?_
    clear S; intro E a w S
    refine sym_if_last (b := ((!r1) || (!r2))) S rfl (fun hb2 => ?_) (fun hb2 => ?_)
    · have h := bif_t hb2 h
      refine sym_seq lay_ok mixed [] [7, 6, 8] [2] (⟨[(7, .own 2 0), (6, .v (.slice none 0 0)), (8, .v (.int .i64 1))], ⟨[(2, .blk 29 [.v (.int .i64 0), .v (.int .i64 0), .v (.int .i64 0)])], (wormtubref04_Run_R c l), []⟩⟩) [] S (by kernel_rfl) (by kernel_rfl) (by kernel_rfl) trivial ?_
      clear S; intro E a w S
      refine wp_ret ?_
      refine out_then_ret ?_
      have h := Option.some.inj h
      subst h
      exact sym_ret lay_ok [.v (.slice none 0 0), .agg [.v (.int .i64 0), .v (.int .i64 0), .v (.int .i64 0)], .v (.int .i64 1)] (by kernel_rfl) rfl S ⟨vfun [.slice none 0 0], rfl, S.below rfl, vfun_one [.slice none 0 0] ⟨rfl, trivial⟩, ((HeldIn.true fun _ => ⟨_, _, rfl, Nat.le_refl _, SlAt.nil⟩).and (HeldIn.true fun _ => trivial))⟩
    · have h := bif_f hb2 h
      refine wp_skip ?_
      refine out_then_normal ?_
      refine sym_seq lay_ok mixed [] [2, 3, 4, 7, 9] [0, 1, 2] (⟨[(2, .sl 2), (3, .own 0 0), (4, .own 1 0), (7, .own 2 0), (9, .v (.slice none 0 0))], ⟨[(0, .blk 25 [.sl 0, .sl 1]), (1, .blk 29 [.v (.int .i64 p.volume), .v (.int .i64 p.alcohol.lo), .v (.int .i64 p.alcohol.hi)]), (2, .blk 29 [.v (.int .i64 0), .v (.int .i64 0), .v (.int .i64 0)])], (wormtubref04_Run_R c l), []⟩⟩) [] S (by kernel_rfl) (by kernel_rfl) (by kernel_rfl) trivial ?_
      clear S; intro E a w S
      refine wp_seq ?_
      refine sym_seq lay_ok mixed [] [2, 3, 4, 7, 9, 10] [0, 1, 2] (⟨[(2, .sl 2), (3, .own 0 0), (4, .own 1 0), (7, .own 2 0), (9, .v (.slice none 0 0)), (10, .v (.int .i64 0))], ⟨[(0, .blk 25 [.sl 0, .sl 1]), (1, .blk 29 [.v (.int .i64 p.volume), .v (.int .i64 p.alcohol.lo), .v (.int .i64 p.alcohol.hi)]), (2, .blk 29 [.v (.int .i64 0), .v (.int .i64 0), .v (.int .i64 0)])], (wormtubref04_Run_R c l), []⟩⟩) [] S (by kernel_rfl) (by kernel_rfl) (by kernel_rfl) trivial ?_
      clear S; intro E a w S
      have S := S.nilgr 0 36 3
      have S := S.reslot (t := 9) (sv' := .gr 0) rfl (by simp [SV.val, SV.subG, Env.updG_same])
      obtain ⟨E, S⟩ : ∃ E, St ⟨W, noC, Go.Proofs.Try.f23.ntmps, [], allR, noρ, (envOf [(0, ⟨A0, c.liquid.length, c0, 1⟩), (1, ⟨A1, c.vapour.length, c1, 2⟩), (2, ⟨A2, l.length, c2, 1⟩)]).sl, (envOf [(0, ⟨A0, c.liquid.length, c0, 1⟩), (1, ⟨A1, c.vapour.length, c1, 2⟩), (2, ⟨A2, l.length, c2, 1⟩)]).x⟩ (⟨[(2, .sl 2), (3, .own 0 0), (4, .own 1 0), (7, .own 2 0), (9, .gr 0), (10, .v (.int .i64 0))], ⟨[(0, .blk 25 [.sl 0, .sl 1]), (1, .blk 29 [.v (.int .i64 p.volume), .v (.int .i64 p.alcohol.lo), .v (.int .i64 p.alcohol.hi)]), (2, .blk 29 [.v (.int .i64 0), .v (.int .i64 0), .v (.int .i64 0)])], (wormtubref04_Run_R c l), [(0, ⟨36, 3, ([] : List MDrawn).length, ([] : List MDrawn).flatMap (fun x => [.int .i64 x.amount, .int .i64 x.alcohol.lo, .int .i64 x.alcohol.hi])⟩)]⟩⟩) E a w := ⟨_, St.pickG S [2, 3, 4, 7, 9, 10] [0, 1, 2] [0] (⟨[(2, .sl 2), (3, .own 0 0), (4, .own 1 0), (7, .own 2 0), (9, .gr 0), (10, .v (.int .i64 0))], ⟨[(0, .blk 25 [.sl 0, .sl 1]), (1, .blk 29 [.v (.int .i64 p.volume), .v (.int .i64 p.alcohol.lo), .v (.int .i64 p.alcohol.hi)]), (2, .blk 29 [.v (.int .i64 0), .v (.int .i64 0), .v (.int .i64 0)])], (wormtubref04_Run_R c l), [(0, ⟨36, 3, ([] : List MDrawn).length, ([] : List MDrawn).flatMap (fun x => [.int .i64 x.amount, .int .i64 x.alcohol.lo, .int .i64 x.alcohol.hi])⟩)]⟩⟩) (by kernel_rfl)⟩
      obtain ⟨lr1, e3, hp1⟩ := bind_some h
      clear h
      refine sym_block_last (G := fun a w => ∃ E, ∃ x1 : Int × Int × Int × List MDrawn, wormtubref04_Run_k1 x1 = some res ∧ St ⟨W, noC, Go.Proofs.Try.f23.ntmps, [], allR, noρ, (envOf [(0, ⟨A0, c.liquid.length, c0, 1⟩), (1, ⟨A1, c.vapour.length, c1, 2⟩), (2, ⟨A2, l.length, c2, 1⟩)]).sl, (envOf [(0, ⟨A0, c.liquid.length, c0, 1⟩), (1, ⟨A1, c.vapour.length, c1, 2⟩), (2, ⟨A2, l.length, c2, 1⟩)]).x⟩ (⟨[(4, .own 1 0), (7, .own 2 0), (9, .gr 0)], ⟨[(1, .blk 29 [.v (.int .i64 x1.1), .v (.int .i64 x1.2.1), .v (.int .i64 x1.2.2.1)]), (2, .blk 29 [.v (.int .i64 0), .v (.int .i64 0), .v (.int .i64 0)])], (wormtubref04_Run_R c l), [(0, ⟨36, 3, x1.2.2.2.length, x1.2.2.2.flatMap (fun x => [.int .i64 x.amount, .int .i64 x.alcohol.lo, .int .i64 x.alcohol.hi])⟩)]⟩⟩) E a w) ?_ ?_
      · refine wp_loop_rounds fuel ?_
        refine sym_rounds (F := fun n b1 => wormtubref04_Run_l1 fuel c l n b1 = some lr1) (H := fun b1 => ⟨[(2, .sl 2), (3, .own 0 0), (4, .own 1 0), (7, .own 2 0), (9, .gr 0), (10, .v (.int .i64 b1.1))], ⟨[(0, .blk 25 [.sl 0, .sl 1]), (1, .blk 29 [.v (.int .i64 b1.2.1), .v (.int .i64 b1.2.2.1), .v (.int .i64 b1.2.2.2.1)]), (2, .blk 29 [.v (.int .i64 0), .v (.int .i64 0), .v (.int .i64 0)])], (wormtubref04_Run_R c l), [(0, ⟨36, 3, b1.2.2.2.2.length, b1.2.2.2.2.flatMap (fun x => [.int .i64 x.amount, .int .i64 x.alcohol.lo, .int .i64 x.alcohol.hi])⟩)]⟩⟩) (0, p.volume, p.alcohol.lo, p.alcohol.hi, ([] : List MDrawn)) (fun b hb => by have hb : none = some lr1 := hb; cases hb) ?_ _ _ _ _ e3 (St.cast (P := Go.Proofs.Try.prog) [] [] [2, 3, 4, 7, 9, 10] [0, 1, 2] [0, 1, 2] _ [] (by kernel_rfl) trivial S)
        clear e3 S
        intro n b1 E a w h ih S
        rw [wormtubref04_Run_l1] at h
        refine wp_seq ?_
        refine sym_seq lay_ok mixed [] [2, 3, 4, 7, 9, 10, 30] [0, 1, 2] (⟨[(2, .sl 2), (3, .own 0 0), (4, .own 1 0), (7, .own 2 0), (9, .gr 0), (10, .v (.int .i64 b1.1)), (30, .v (.bool (decide (b1.1 < ((l.length : Nat) : Int)))))], ⟨[(0, .blk 25 [.sl 0, .sl 1]), (1, .blk 29 [.v (.int .i64 b1.2.1), .v (.int .i64 b1.2.2.1), .v (.int .i64 b1.2.2.2.1)]), (2, .blk 29 [.v (.int .i64 0), .v (.int .i64 0), .v (.int .i64 0)])], (wormtubref04_Run_R c l), [(0, ⟨36, 3, b1.2.2.2.2.length, b1.2.2.2.2.flatMap (fun x => [.int .i64 x.amount, .int .i64 x.alcohol.lo, .int .i64 x.alcohol.hi])⟩)]⟩⟩) [] S (by kernel_rfl) (by kernel_rfl) (by kernel_rfl) trivial ?_
        clear S; intro E a w S
        refine sym_if_last (b := decide (b1.1 < ((l.length : Nat) : Int))) S rfl (fun hb3 => ?_) (fun hb3 => ?_)
        · have h := bif_t hb3 h
          refine wp_skip ?_
          refine out_then_normal ?_
          refine wp_seq ?_
          refine wp_block ?_
          obtain ⟨g1, h⟩ := grd_some h
          obtain ⟨r3, e4, h⟩ := bind_some h
          refine sym_seq lay_ok mixed [(6, { res := .tup [.agg [.v (.int .i64 r3.1.amount), .v (.int .i64 r3.1.alcohol.lo), .v (.int .i64 r3.1.alcohol.hi)], .agg [.v (.int .i64 r3.2.1.volume), .v (.int .i64 r3.2.1.alcohol.lo), .v (.int .i64 r3.2.1.alcohol.hi)], .v (.int .i64 r3.2.2)] }), (11, { g := 6 }), (12, { g := 7 })] [2, 3, 4, 7, 9, 10, 11, 12, 13] [0, 1, 2, 6, 7] (⟨[(2, .sl 2), (3, .own 0 0), (4, .own 1 0), (7, .own 2 0), (9, .gr 0), (10, .v (.int .i64 b1.1)), (11, .own 6 0), (12, .own 7 0), (13, .v (.int .i64 r3.2.2))], ⟨[(0, .blk 25 [.sl 0, .sl 1]), (1, .blk 29 [.v (.int .i64 b1.2.1), .v (.int .i64 b1.2.2.1), .v (.int .i64 b1.2.2.2.1)]), (2, .blk 29 [.v (.int .i64 0), .v (.int .i64 0), .v (.int .i64 0)]), (6, .blk 36 [.v (.int .i64 r3.1.amount), .v (.int .i64 r3.1.alcohol.lo), .v (.int .i64 r3.1.alcohol.hi)]), (7, .blk 29 [.v (.int .i64 r3.2.1.volume), .v (.int .i64 r3.2.1.alcohol.lo), .v (.int .i64 r3.2.1.alcohol.hi)])], (wormtubref04_Run_R c l), [(0, ⟨36, 3, b1.2.2.2.2.length, b1.2.2.2.2.flatMap (fun x => [.int .i64 x.amount, .int .i64 x.alcohol.lo, .int .i64 x.alcohol.hi])⟩)]⟩⟩) [.idx b1.1 l.length, .idx b1.1 l.length, .call ⟨[], (wormtubref04_Run_R c l), [(0, ⟨36, 3, b1.2.2.2.2.length, b1.2.2.2.2.flatMap (fun x => [.int .i64 x.amount, .int .i64 x.alcohol.lo, .int .i64 x.alcohol.hi])⟩)]⟩ 21 [.agg [.sl 0, .sl 1], .agg [.v (.int .i64 b1.2.1), .v (.int .i64 b1.2.2.1), .v (.int .i64 b1.2.2.2.1)], .v (.int .i64 (l.getD (Int.toNat b1.1) default))] (.tup [.agg [.v (.int .i64 r3.1.amount), .v (.int .i64 r3.1.alcohol.lo), .v (.int .i64 r3.1.alcohol.hi)], .agg [.v (.int .i64 r3.2.1.volume), .v (.int .i64 r3.2.1.alcohol.lo), .v (.int .i64 r3.2.1.alcohol.hi)], .v (.int .i64 r3.2.2)])] S (by kernel_rfl) (by kernel_rfl) (by kernel_rfl) ⟨g1, g1, ⟨enters_21, fun E W _ hm => by obtain ⟨A0, c0, q0, l0, s0, _⟩ := Mem.sl hm (s := 0) rfl; obtain ⟨A1, c1, q1, l1, s1, _⟩ := Mem.sl hm (s := 1) rfl; simp only [SV.vals, SV.val, q0, q1]; exact wormtubref04_Draw_ok fuel c (MPot.mk b1.2.1 (MSpan.mk b1.2.2.1 b1.2.2.2.1)) (l.getD (Int.toNat b1.1) default) W A0 c0 l0 s0 A1 c1 l1 s1 r3 e4⟩, trivial⟩ ?_
          clear S; intro E a w S
          refine wp_seq ?_
          refine sym_seq lay_ok mixed [] [2, 3, 4, 7, 9, 10, 11, 12, 13, 45] [0, 1, 2, 6, 7] (⟨[(2, .sl 2), (3, .own 0 0), (4, .own 1 0), (7, .own 2 0), (9, .gr 0), (10, .v (.int .i64 b1.1)), (11, .own 6 0), (12, .own 7 0), (13, .v (.int .i64 r3.2.2)), (45, .v (.bool (r3.2.2 != 0)))], ⟨[(0, .blk 25 [.sl 0, .sl 1]), (1, .blk 29 [.v (.int .i64 b1.2.1), .v (.int .i64 b1.2.2.1), .v (.int .i64 b1.2.2.2.1)]), (2, .blk 29 [.v (.int .i64 0), .v (.int .i64 0), .v (.int .i64 0)]), (6, .blk 36 [.v (.int .i64 r3.1.amount), .v (.int .i64 r3.1.alcohol.lo), .v (.int .i64 r3.1.alcohol.hi)]), (7, .blk 29 [.v (.int .i64 r3.2.1.volume), .v (.int .i64 r3.2.1.alcohol.lo), .v (.int .i64 r3.2.1.alcohol.hi)])], (wormtubref04_Run_R c l), [(0, ⟨36, 3, b1.2.2.2.2.length, b1.2.2.2.2.flatMap (fun x => [.int .i64 x.amount, .int .i64 x.alcohol.lo, .int .i64 x.alcohol.hi])⟩)]⟩⟩) [] S (by kernel_rfl) (by kernel_rfl) (by kernel_rfl) trivial ?_
          clear S; intro E a w S
          refine sym_if_last (b := (r3.2.2 != 0)) S rfl (fun hb4 => ?_) (fun hb4 => ?_)
          · have h := bif_t hb4 h
            refine sym_seq lay_ok mixed [] [7, 6, 8] [2] (⟨[(7, .own 2 0), (6, .v (.slice none 0 0)), (8, .v (.int .i64 r3.2.2))], ⟨[(2, .blk 29 [.v (.int .i64 0), .v (.int .i64 0), .v (.int .i64 0)])], (wormtubref04_Run_R c l), [(0, ⟨36, 3, b1.2.2.2.2.length, b1.2.2.2.2.flatMap (fun x => [.int .i64 x.amount, .int .i64 x.alcohol.lo, .int .i64 x.alcohol.hi])⟩)]⟩⟩) [] S (by kernel_rfl) (by kernel_rfl) (by kernel_rfl) trivial ?_
            clear S; intro E a w S
            refine wp_ret ?_
            refine out_then_ret ?_
            refine out_block_ret ?_
            refine out_then_ret ?_
            refine out_then_ret ?_
            refine out_block_ret ?_
            refine out_then_ret ?_
            refine out_then_ret ?_
            have hr := Option.some.inj h
            subst hr
            have hr := Option.some.inj hp1
            subst hr
            exact sym_ret lay_ok [.v (.slice none 0 0), .agg [.v (.int .i64 0), .v (.int .i64 0), .v (.int .i64 0)], .v (.int .i64 r3.2.2)] (by kernel_rfl) rfl S ⟨vfun [.slice none 0 0], rfl, S.below rfl, vfun_one [.slice none 0 0] ⟨rfl, trivial⟩, ((HeldIn.true fun _ => ⟨_, _, rfl, Nat.le_refl _, SlAt.nil⟩).and (HeldIn.true fun _ => trivial))⟩
          · have h := bif_f hb4 h
            refine wp_skip ?_
            refine out_then_normal ?_
            obtain ⟨g2, h⟩ := grd_some h
            refine sym_open ?_
            refine sym_runP lay_ok [(2, { g := 8 })] 0 3 [2, 3, 4, 7, 9, 10, 12, 48, 50] [0, 1, 2, 7, 8] (⟨[(2, .sl 2), (3, .own 0 0), (4, .own 1 0), (7, .own 2 0), (9, .gr 0), (10, .v (.int .i64 b1.1)), (12, .own 7 0), (48, .gr 0), (50, .row 8 0 1 1)], ⟨[(0, .blk 25 [.sl 0, .sl 1]), (1, .blk 29 [.v (.int .i64 b1.2.1), .v (.int .i64 b1.2.2.1), .v (.int .i64 b1.2.2.2.1)]), (2, .blk 29 [.v (.int .i64 0), .v (.int .i64 0), .v (.int .i64 0)]), (7, .blk 29 [.v (.int .i64 r3.2.1.volume), .v (.int .i64 r3.2.1.alcohol.lo), .v (.int .i64 r3.2.1.alcohol.hi)]), (8, .blk 36 [.v (.int .i64 r3.1.amount), .v (.int .i64 r3.1.alcohol.lo), .v (.int .i64 r3.1.alcohol.hi)])], (wormtubref04_Run_R c l), [(0, ⟨36, 3, b1.2.2.2.2.length, b1.2.2.2.2.flatMap (fun x => [.int .i64 x.amount, .int .i64 x.alcohol.lo, .int .i64 x.alcohol.hi])⟩)]⟩⟩) [] S (by kernel_rfl) (by kernel_rfl) trivial ?_
            clear S; intro E a w S
            refine sym_append lay_ok rfl (.tmp 48) (.tmp 50) 39 rfl rfl S 0 8 0 1 1 36 [.v (.int .i64 r3.1.amount), .v (.int .i64 r3.1.alcohol.lo), .v (.int .i64 r3.1.alcohol.hi)] ⟨36, 3, b1.2.2.2.2.length, b1.2.2.2.2.flatMap (fun x => [.int .i64 x.amount, .int .i64 x.alcohol.lo, .int .i64 x.alcohol.hi])⟩ ⟨.str [(0, 1, false), (1, 2, true)], 3, [.int .i64 0, .int .i64 0, .int .i64 0], true, 24⟩ ⟨.sli 36 3, 1, [.slice none 0 0], false, 24⟩ rfl rfl rfl rfl rfl rfl rfl rfl (show 0 < 3 by decide) rfl rfl (fun e he => by cases he; exact Nat.lt_of_succ_le (Nat.le_of_ble_eq_true rfl)) ⟨36, 3, (b1.2.2.2.2 ++ [(MDrawn.mk r3.1.amount (MSpan.mk r3.1.alcohol.lo r3.1.alcohol.hi))]).length, (b1.2.2.2.2 ++ [(MDrawn.mk r3.1.amount (MSpan.mk r3.1.alcohol.lo r3.1.alcohol.hi))]).flatMap (fun x => [.int .i64 x.amount, .int .i64 x.alcohol.lo, .int .i64 x.alcohol.hi])⟩ rfl rfl (by simp) (fun E => by simp [SV.vals, SV.val]) (Nat.le_trans g2 (by decide)) (show (b1.2.2.2.2.length + 1) * 24 ≤ 140737488355328 by have := g2; omega) rfl ?_
            clear S; intro v0 E a w S; have S := St.pickG S [2, 3, 4, 7, 10, 12, 50, 51] [0, 1, 2, 7, 8] [0] (⟨[(2, .sl 2), (3, .own 0 0), (4, .own 1 0), (7, .own 2 0), (10, .v (.int .i64 b1.1)), (12, .own 7 0), (50, .row 8 0 1 1), (51, .gr 0)], ⟨[(0, .blk 25 [.sl 0, .sl 1]), (1, .blk 29 [.v (.int .i64 b1.2.1), .v (.int .i64 b1.2.2.1), .v (.int .i64 b1.2.2.2.1)]), (2, .blk 29 [.v (.int .i64 0), .v (.int .i64 0), .v (.int .i64 0)]), (7, .blk 29 [.v (.int .i64 r3.2.1.volume), .v (.int .i64 r3.2.1.alcohol.lo), .v (.int .i64 r3.2.1.alcohol.hi)]), (8, .blk 36 [.v (.int .i64 r3.1.amount), .v (.int .i64 r3.1.alcohol.lo), .v (.int .i64 r3.1.alcohol.hi)])], (wormtubref04_Run_R c l), [(0, ⟨36, 3, (b1.2.2.2.2 ++ [(MDrawn.mk r3.1.amount (MSpan.mk r3.1.alcohol.lo r3.1.alcohol.hi))]).length, (b1.2.2.2.2 ++ [(MDrawn.mk r3.1.amount (MSpan.mk r3.1.alcohol.lo r3.1.alcohol.hi))]).flatMap (fun x => [.int .i64 x.amount, .int .i64 x.alcohol.lo, .int .i64 x.alcohol.hi])⟩)]⟩⟩) (by kernel_rfl)
            refine sym_runP lay_ok [] 4 1 [2, 3, 4, 7, 10, 12, 9] [0, 1, 2, 7] (⟨[(2, .sl 2), (3, .own 0 0), (4, .own 1 0), (7, .own 2 0), (10, .v (.int .i64 b1.1)), (12, .own 7 0), (9, .gr 0)], ⟨[(0, .blk 25 [.sl 0, .sl 1]), (1, .blk 29 [.v (.int .i64 b1.2.1), .v (.int .i64 b1.2.2.1), .v (.int .i64 b1.2.2.2.1)]), (2, .blk 29 [.v (.int .i64 0), .v (.int .i64 0), .v (.int .i64 0)]), (7, .blk 29 [.v (.int .i64 r3.2.1.volume), .v (.int .i64 r3.2.1.alcohol.lo), .v (.int .i64 r3.2.1.alcohol.hi)])], (wormtubref04_Run_R c l), [(0, ⟨36, 3, (b1.2.2.2.2 ++ [(MDrawn.mk r3.1.amount (MSpan.mk r3.1.alcohol.lo r3.1.alcohol.hi))]).length, (b1.2.2.2.2 ++ [(MDrawn.mk r3.1.amount (MSpan.mk r3.1.alcohol.lo r3.1.alcohol.hi))]).flatMap (fun x => [.int .i64 x.amount, .int .i64 x.alcohol.lo, .int .i64 x.alcohol.hi])⟩)]⟩⟩) [] S (by kernel_rfl) (by kernel_rfl) trivial ?_
            clear S; intro E a w S
            refine sym_done rfl ?_
            refine out_then_normal ?_
            have S := St.pickG S [2, 3, 4, 7, 10, 12, 9] [0, 1, 2, 7] [0] (⟨[(2, .sl 2), (3, .own 0 0), (4, .own 1 0), (7, .own 2 0), (10, .v (.int .i64 b1.1)), (12, .own 7 0), (9, .gr 0)], ⟨[(0, .blk 25 [.sl 0, .sl 1]), (1, .blk 29 [.v (.int .i64 b1.2.1), .v (.int .i64 b1.2.2.1), .v (.int .i64 b1.2.2.2.1)]), (2, .blk 29 [.v (.int .i64 0), .v (.int .i64 0), .v (.int .i64 0)]), (7, .blk 29 [.v (.int .i64 r3.2.1.volume), .v (.int .i64 r3.2.1.alcohol.lo), .v (.int .i64 r3.2.1.alcohol.hi)])], (wormtubref04_Run_R c l), [(0, ⟨36, 3, (b1.2.2.2.2 ++ [(MDrawn.mk r3.1.amount (MSpan.mk r3.1.alcohol.lo r3.1.alcohol.hi))]).length, (b1.2.2.2.2 ++ [(MDrawn.mk r3.1.amount (MSpan.mk r3.1.alcohol.lo r3.1.alcohol.hi))]).flatMap (fun x => [.int .i64 x.amount, .int .i64 x.alcohol.lo, .int .i64 x.alcohol.hi])⟩)]⟩⟩) (by kernel_rfl)
            refine sym_last lay_ok mixed [] [2, 3, 4, 7, 10, 9] [0, 1, 2] (⟨[(2, .sl 2), (3, .own 0 0), (4, .own 1 0), (7, .own 2 0), (10, .v (.int .i64 b1.1)), (9, .gr 0)], ⟨[(0, .blk 25 [.sl 0, .sl 1]), (1, .blk 29 [.v (.int .i64 r3.2.1.volume), .v (.int .i64 r3.2.1.alcohol.lo), .v (.int .i64 r3.2.1.alcohol.hi)]), (2, .blk 29 [.v (.int .i64 0), .v (.int .i64 0), .v (.int .i64 0)])], (wormtubref04_Run_R c l), [(0, ⟨36, 3, (b1.2.2.2.2 ++ [(MDrawn.mk r3.1.amount (MSpan.mk r3.1.alcohol.lo r3.1.alcohol.hi))]).length, (b1.2.2.2.2 ++ [(MDrawn.mk r3.1.amount (MSpan.mk r3.1.alcohol.lo r3.1.alcohol.hi))]).flatMap (fun x => [.int .i64 x.amount, .int .i64 x.alcohol.lo, .int .i64 x.alcohol.hi])⟩)]⟩⟩) [] S (by kernel_rfl) (by kernel_rfl) (by kernel_rfl) trivial ?_
            clear S; intro E a w S
            refine out_block_normal ?_
            refine out_then_normal ?_
            obtain ⟨g3, h⟩ := grd_some h
            refine sym_last lay_ok mixed [] [2, 3, 4, 7, 10, 9] [0, 1, 2] (⟨[(2, .sl 2), (3, .own 0 0), (4, .own 1 0), (7, .own 2 0), (10, .v (.int .i64 (b1.1 + 1))), (9, .gr 0)], ⟨[(0, .blk 25 [.sl 0, .sl 1]), (1, .blk 29 [.v (.int .i64 r3.2.1.volume), .v (.int .i64 r3.2.1.alcohol.lo), .v (.int .i64 r3.2.1.alcohol.hi)]), (2, .blk 29 [.v (.int .i64 0), .v (.int .i64 0), .v (.int .i64 0)])], (wormtubref04_Run_R c l), [(0, ⟨36, 3, (b1.2.2.2.2 ++ [(MDrawn.mk r3.1.amount (MSpan.mk r3.1.alcohol.lo r3.1.alcohol.hi))]).length, (b1.2.2.2.2 ++ [(MDrawn.mk r3.1.amount (MSpan.mk r3.1.alcohol.lo r3.1.alcohol.hi))]).flatMap (fun x => [.int .i64 x.amount, .int .i64 x.alcohol.lo, .int .i64 x.alcohol.hi])⟩)]⟩⟩) [.rng .i64 (b1.1 + 1)] S (by kernel_rfl) (by kernel_rfl) (by kernel_rfl) ⟨rngI64 g3, trivial⟩ ?_
            clear S; intro E a w S
            refine out_then_normal ?_
            exact ih ((b1.1 + 1), r3.2.1.volume, r3.2.1.alcohol.lo, r3.2.1.alcohol.hi, (b1.2.2.2.2 ++ [(MDrawn.mk r3.1.amount (MSpan.mk r3.1.alcohol.lo r3.1.alcohol.hi))])) _ _ _ h (St.cast (P := Go.Proofs.Try.prog) [] [] [2, 3, 4, 7, 9, 10] [0, 1, 2] [0, 1, 2] _ [] (by kernel_rfl) trivial S)
        · have h := bif_f hb3 h
          refine wp_exit ?_
          refine out_then_exit ?_
          refine out_then_exit ?_
          refine out_block_here ?_
          refine out_then_normal ?_
          have hr := Option.some.inj h
          subst hr
          exact ⟨_, (b1.2.1, b1.2.2.1, b1.2.2.2.1, b1.2.2.2.2), hp1, St.cast (P := Go.Proofs.Try.prog) [] [] [4, 7, 9] [1, 2] [0, 1, 2] _ [] (by kernel_rfl) trivial S⟩
      clear e3 S
      rintro a w ⟨E, x1, h, S⟩
      rw [wormtubref04_Run_k1] at h
      refine out_then_normal ?_
      refine sym_seq lay_ok mixed [] [7, 6, 8] [2] (⟨[(7, .own 2 0), (6, .gr 0), (8, .v (.int .i64 0))], ⟨[(2, .blk 29 [.v (.int .i64 x1.1), .v (.int .i64 x1.2.1), .v (.int .i64 x1.2.2.1)])], (wormtubref04_Run_R c l), [(0, ⟨36, 3, x1.2.2.2.length, x1.2.2.2.flatMap (fun x => [.int .i64 x.amount, .int .i64 x.alcohol.lo, .int .i64 x.alcohol.hi])⟩)]⟩⟩) [] S (by kernel_rfl) (by kernel_rfl) (by kernel_rfl) trivial ?_
      clear S; intro E a w S
      refine wp_ret ?_
      have h := Option.some.inj h
      subst h
      exact sym_ret lay_ok [.gr 0, .agg [.v (.int .i64 x1.1), .v (.int .i64 x1.2.1), .v (.int .i64 x1.2.2.1)], .v (.int .i64 0)] (by kernel_rfl) rfl S ⟨vfun [E.gr 0], rfl, S.below rfl, vfun_one [E.gr 0] ⟨(S.gr_one (k := 0) rfl), trivial⟩, (((S.mem.gr 0 _ rfl).slice (S.gr_new rfl (k := 0) rfl) 0 (vfun [E.gr 0]) rfl _ (flat_get (fun x => [.int .i64 x.amount, .int .i64 x.alcohol.lo, .int .i64 x.alcohol.hi]) 3 (fun _ => rfl) x1.2.2.2)).and (HeldIn.true fun _ => trivial))⟩
def wormtubref04_Heart_R (c : MCurve) (l : List Int) : List (Nat × Q) := [(0, ⟨c.liquid.length, 1, fun i => [.int .i64 (c.liquid.getD i default)]⟩), (1, ⟨c.vapour.length, 2, fun i => [.int .i64 ((c.vapour.getD i default).lo), .int .i64 ((c.vapour.getD i default).hi)]⟩), (2, ⟨l.length, 1, fun i => [.int .i64 (l.getD i default)]⟩)]
def wormtubref04_Heart_k1  (x1 : Int) : Option (Int × Int) :=
(bif decide (x1 < 0) then
(some (0, 4))
else
(some (x1, 0)))
def wormtubref04_Heart_l1 (l : List Int) (target : Int) (r4 : (List MDrawn × MPot × Int)) : Nat → (Int × Int × Int × Int) → Option (Lp Int (Int × Int))
  | 0, _ => none
  | n + 1, b1 =>
    (bif decide (b1.2.2.2 < ((l.length : Nat) : Int)) then
    (grd (((0 : Int) ≤ b1.2.2.2 ∧ (b1.2.2.2 : Int) < ((r4.1.length : Nat) : Int)) ∧ InI64 (b1.2.1 + (((r4.1.getD (Int.toNat b1.2.2.2) default).alcohol).lo))) <|
    grd (((0 : Int) ≤ b1.2.2.2 ∧ (b1.2.2.2 : Int) < ((l.length : Nat) : Int)) ∧ InI64 (b1.2.2.1 + (l.getD (Int.toNat b1.2.2.2) default))) <|
    grd (InI64 ((b1.2.1 + (((r4.1.getD (Int.toNat b1.2.2.2) default).alcohol).lo)) * 10000) ∧ InI64 (target * (b1.2.2.1 + (l.getD (Int.toNat b1.2.2.2) default)))) <|
    (bif decide ((target * (b1.2.2.1 + (l.getD (Int.toNat b1.2.2.2) default))) ≤ ((b1.2.1 + (((r4.1.getD (Int.toNat b1.2.2.2) default).alcohol).lo)) * 10000)) then
    (grd (InI64 (b1.2.2.2 + 1)) <|
    wormtubref04_Heart_l1 l target r4 n (b1.2.2.2, (b1.2.1 + (((r4.1.getD (Int.toNat b1.2.2.2) default).alcohol).lo)), (b1.2.2.1 + (l.getD (Int.toNat b1.2.2.2) default)), (b1.2.2.2 + 1)))
    else
    (grd (InI64 (b1.2.2.2 + 1)) <|
    wormtubref04_Heart_l1 l target r4 n (b1.1, (b1.2.1 + (((r4.1.getD (Int.toNat b1.2.2.2) default).alcohol).lo)), (b1.2.2.1 + (l.getD (Int.toNat b1.2.2.2) default)), (b1.2.2.2 + 1)))))
    else
    (some (Lp.done b1.1)))
def wormtubref04_Heart (fuel : Nat) (c : MCurve) (p : MPot) (l : List Int) (from' : Int) (target : Int) : Option (Int × Int) :=
(wormtubref04_early fuel c (MPot.mk p.volume (MSpan.mk p.alcohol.lo p.alcohol.hi)) l).bind fun (r1 : Int) =>
(bif (r1 != 0) then
(some (0, r1))
else
(grd (InI64 (((l.length : Nat) : Int) - 1)) <|
(wormtubref04_in from' 0 (((l.length : Nat) : Int) - 1)).bind fun (r2 : Bool) =>
((bif (!(!r2)) then wormtubref04_in target 1 10000 else some default)).bind fun (r3 : Bool) =>
(bif ((!r2) || (!r3)) then
(some (0, 2))
else
((wormtubref04_Run fuel c (MPot.mk p.volume (MSpan.mk p.alcohol.lo p.alcohol.hi)) l).bind fun (r4 : (List MDrawn × MPot × Int)) =>
(bif (r4.2.2 != 0) then
(some (0, r4.2.2))
else
((wormtubref04_Heart_l1 l target r4 fuel ((-1), 0, 0, from')).bind fun lr1 => lr1.go fun x1 => wormtubref04_Heart_k1 x1))))))
set_option maxRecDepth 100000 in
set_option maxHeartbeats 4000000 in
theorem wormtubref04_Heart_ok (fuel : Nat) (c : MCurve) (p : MPot) (l : List Int) (from' : Int) (target : Int) (W : World) (A0 : Option Addr) (c0 : Nat) (h0 : c.liquid.length ≤ c0) (s0 : SlAt W A0 c.liquid.length 1 fun i => [.int .i64 (c.liquid.getD i default)]) (A1 : Option Addr) (c1 : Nat) (h1 : c.vapour.length ≤ c1) (s1 : SlAt W A1 c.vapour.length 2 fun i => [.int .i64 ((c.vapour.getD i default).lo), .int .i64 ((c.vapour.getD i default).hi)]) (A2 : Option Addr) (c2 : Nat) (h2 : l.length ≤ c2) (s2 : SlAt W A2 l.length 1 fun i => [.int .i64 (l.getD i default)]) (res : Int × Int) (h : wormtubref04_Heart fuel c p l from' target = some res) :
    Calls Go.Proofs.Try.prog 30 #[.agg #[.slice A0 c.liquid.length c0, .slice A1 c.vapour.length c1], .agg #[.int .i64 p.volume, .int .i64 p.alcohol.lo, .int .i64 p.alcohol.hi], .slice A2 l.length c2, .int .i64 from', .int .i64 target] W fun e w' => e = .returned (.tuple #[.int .i64 res.1, .int .i64 res.2]) ∧ Below W.heap.size W w' := by
  refine sym_call (f := 30) (fn := Go.Proofs.Try.f30) (c := Go.Proofs.Try.f30.body.get rfl) Go.Proofs.Try.func30 rfl [.agg [.sl 0, .sl 1], .agg [.v (.int .i64 p.volume), .v (.int .i64 p.alcohol.lo), .v (.int .i64 p.alcohol.hi)], .sl 2, .v (.int .i64 from'), .v (.int .i64 target)] (wormtubref04_Heart_R c l) [] (envOf [(0, ⟨A0, c.liquid.length, c0, 1⟩), (1, ⟨A1, c.vapour.length, c1, 2⟩), (2, ⟨A2, l.length, c2, 1⟩)]) allR (fun _ _ => rfl) (by kernel_rfl) (envOf_one trivial) ⟨s0.rd h0, s1.rd h1, s2.rd h2, trivial⟩ (AllRR.all _ _) trivial fun E a w S => ?_
  rw [wormtubref04_Heart] at h
  refine sym_seq lay_ok mixed [(0, { g := 0 }), (1, { g := 1 })] [2, 3, 4, 5, 6] [0, 1] (⟨[(2, .sl 2), (3, .v (.int .i64 from')), (4, .v (.int .i64 target)), (5, .own 0 0), (6, .own 1 0)], ⟨[(0, .blk 25 [.sl 0, .sl 1]), (1, .blk 29 [.v (.int .i64 p.volume), .v (.int .i64 p.alcohol.lo), .v (.int .i64 p.alcohol.hi)])], (wormtubref04_Heart_R c l), []⟩⟩) [] S (by kernel_rfl) (by kernel_rfl) (by kernel_rfl) trivial ?_
  clear S; intro E a w S
  obtain ⟨r1, e1, h⟩ := bind_some h
  refine sym_seq lay_ok mixed [(3, { res := .v (.int .i64 r1) })] [2, 3, 4, 5, 6, 12] [0, 1] (⟨[(2, .sl 2), (3, .v (.int .i64 from')), (4, .v (.int .i64 target)), (5, .own 0 0), (6, .own 1 0), (12, .v (.int .i64 r1))], ⟨[(0, .blk 25 [.sl 0, .sl 1]), (1, .blk 29 [.v (.int .i64 p.volume), .v (.int .i64 p.alcohol.lo), .v (.int .i64 p.alcohol.hi)])], (wormtubref04_Heart_R c l), []⟩⟩) [.call ⟨[], (wormtubref04_Heart_R c l), []⟩ 57 [.agg [.sl 0, .sl 1], .agg [.v (.int .i64 p.volume), .v (.int .i64 p.alcohol.lo), .v (.int .i64 p.alcohol.hi)], .sl 2] (.v (.int .i64 r1))] S (by kernel_rfl) (by kernel_rfl) (by kernel_rfl) ⟨⟨enters_57, fun E W _ hm => by obtain ⟨A0, c0, q0, l0, s0, _⟩ := Mem.sl hm (s := 0) rfl; obtain ⟨A1, c1, q1, l1, s1, _⟩ := Mem.sl hm (s := 1) rfl; obtain ⟨A2, c2, q2, l2, s2, _⟩ := Mem.sl hm (s := 2) rfl; simp only [SV.vals, SV.val, q0, q1, q2]; exact wormtubref04_early_ok fuel c (MPot.mk p.volume (MSpan.mk p.alcohol.lo p.alcohol.hi)) l W A0 c0 l0 s0 A1 c1 l1 s1 A2 c2 l2 s2 r1 e1⟩, trivial⟩ ?_
  clear S; intro E a w S
  refine wp_seq ?_
  refine sym_seq lay_ok mixed [] [2, 3, 4, 5, 6, 12, 24] [0, 1] (⟨[(2, .sl 2), (3, .v (.int .i64 from')), (4, .v (.int .i64 target)), (5, .own 0 0), (6, .own 1 0), (12, .v (.int .i64 r1)), (24, .v (.bool (r1 != 0)))], ⟨[(0, .blk 25 [.sl 0, .sl 1]), (1, .blk 29 [.v (.int .i64 p.volume), .v (.int .i64 p.alcohol.lo), .v (.int .i64 p.alcohol.hi)])], (wormtubref04_Heart_R c l), []⟩⟩) [] S (by kernel_rfl) (by kernel_rfl) (by kernel_rfl) trivial ?_
  clear S; intro E a w S
  refine sym_if_last (b := (r1 != 0)) S rfl (fun hb1 => ?_) (fun hb1 => ?_)
  · have h := bif_t hb1 h
    refine sym_seq lay_ok mixed [] [10, 11] [] (⟨[(10, .v (.int .i64 0)), (11, .v (.int .i64 r1))], ⟨[], (wormtubref04_Heart_R c l), []⟩⟩) [] S (by kernel_rfl) (by kernel_rfl) (by kernel_rfl) trivial ?_
    clear S; intro E a w S
    refine wp_ret ?_
    refine out_then_ret ?_
    have h := Option.some.inj h
    subst h
    exact sym_ret lay_ok [.v (.int .i64 0), .v (.int .i64 r1)] (by kernel_rfl) rfl S ⟨rfl, S.below rfl⟩
  · have h := bif_f hb1 h
    refine wp_skip ?_
    refine out_then_normal ?_
    refine wp_seq ?_
    obtain ⟨g1, h⟩ := grd_some h
    obtain ⟨r2, e2, h⟩ := bind_some h
    obtain ⟨r3, e3, h⟩ := bind_some h
    refine sym_seq lay_ok mixed [(4, { res := .v (.bool r2) }), (7, { og := true }), (8, { og := true, res := .v (.bool r3) }), (9, { og := true }), (10, { pk := true })] [2, 3, 4, 5, 6, 36] [0, 1] (⟨[(2, .sl 2), (3, .v (.int .i64 from')), (4, .v (.int .i64 target)), (5, .own 0 0), (6, .own 1 0), (36, .v (.bool ((!r2) || (!r3))))], ⟨[(0, .blk 25 [.sl 0, .sl 1]), (1, .blk 29 [.v (.int .i64 p.volume), .v (.int .i64 p.alcohol.lo), .v (.int .i64 p.alcohol.hi)])], (wormtubref04_Heart_R c l), []⟩⟩) [.rng .i64 (((l.length : Nat) : Int) - 1), .call ⟨[], (wormtubref04_Heart_R c l), []⟩ 51 [.v (.int .i64 from'), .v (.int .i64 0), .v (.int .i64 (((l.length : Nat) : Int) - 1))] (.v (.bool r2)), .imp (!(!r2)) (!(!r2)), .when (!(!r2)) (.call ⟨[], (wormtubref04_Heart_R c l), []⟩ 51 [.v (.int .i64 target), .v (.int .i64 1), .v (.int .i64 10000)] (.v (.bool r3))), .imp (!(!r2)) (!(!r2)), .imp (!(!r2)) (!(!r2))] S (by kernel_rfl) (by kernel_rfl) (by kernel_rfl) ⟨rngI64 g1, ⟨enters_51, fun _ W _ _ => wormtubref04_in_ok from' 0 (((l.length : Nat) : Int) - 1) W r2 e2⟩, fun h => h, fun hW => ⟨enters_51, fun _ W _ _ => wormtubref04_in_ok target 1 10000 W r3 (bif_t hW e3)⟩, fun h => h, fun h => h, trivial⟩ ?_
    clear S; intro E a w S
    refine sym_if_last (b := ((!r2) || (!r3))) S rfl (fun hb2 => ?_) (fun hb2 => ?_)
    · have h := bif_t hb2 h
      refine sym_seq lay_ok mixed [] [10, 11] [] (⟨[(10, .v (.int .i64 0)), (11, .v (.int .i64 2))], ⟨[], (wormtubref04_Heart_R c l), []⟩⟩) [] S (by kernel_rfl) (by kernel_rfl) (by kernel_rfl) trivial ?_
      clear S; intro E a w S
      refine wp_ret ?_
      refine out_then_ret ?_
      have h := Option.some.inj h
      subst h
      exact sym_ret lay_ok [.v (.int .i64 0), .v (.int .i64 2)] (by kernel_rfl) rfl S ⟨rfl, S.below rfl⟩
    · have h := bif_f hb2 h
      refine wp_skip ?_
      refine out_then_normal ?_
      obtain ⟨r4, e4, h⟩ := bind_some h
      refine sym_seq lay_ok mixed [(3, { g := 2, res := .tup [.ltr 2 0, .agg [.v (.int .i64 r4.2.1.volume), .v (.int .i64 r4.2.1.alcohol.lo), .v (.int .i64 r4.2.1.alcohol.hi)], .v (.int .i64 r4.2.2)], hx := some (SlicesAre 0 [⟨r4.1.length, 3, fun i => [.int .i64 ((r4.1.getD i default).amount), .int .i64 (((r4.1.getD i default).alcohol).lo), .int .i64 (((r4.1.getD i default).alcohol).hi)]⟩]) }), (8, { g := 3 })] [2, 3, 4, 13, 12] [2] (⟨[(2, .sl 2), (3, .v (.int .i64 from')), (4, .v (.int .i64 target)), (13, .ltr 2 0), (12, .v (.int .i64 r4.2.2))], ⟨[(2, .held (SlicesAre 0 [⟨r4.1.length, 3, fun i => [.int .i64 ((r4.1.getD i default).amount), .int .i64 (((r4.1.getD i default).alcohol).lo), .int .i64 (((r4.1.getD i default).alcohol).hi)]⟩]))], (wormtubref04_Heart_R c l), []⟩⟩) [.callx ⟨[], (wormtubref04_Heart_R c l), []⟩ 2 23 [.agg [.sl 0, .sl 1], .agg [.v (.int .i64 p.volume), .v (.int .i64 p.alcohol.lo), .v (.int .i64 p.alcohol.hi)], .sl 2] (.tup [.ltr 2 0, .agg [.v (.int .i64 r4.2.1.volume), .v (.int .i64 r4.2.1.alcohol.lo), .v (.int .i64 r4.2.1.alcohol.hi)], .v (.int .i64 r4.2.2)]) (SlicesAre 0 [⟨r4.1.length, 3, fun i => [.int .i64 ((r4.1.getD i default).amount), .int .i64 (((r4.1.getD i default).alcohol).lo), .int .i64 (((r4.1.getD i default).alcohol).hi)]⟩])] S (by kernel_rfl) (by kernel_rfl) (by kernel_rfl) ⟨⟨enters_23, fun E W _ hm => by obtain ⟨A0, c0, q0, l0, s0, _⟩ := Mem.sl hm (s := 0) rfl; obtain ⟨A1, c1, q1, l1, s1, _⟩ := Mem.sl hm (s := 1) rfl; obtain ⟨A2, c2, q2, l2, s2, _⟩ := Mem.sl hm (s := 2) rfl; simp only [SV.vals, SV.val, q0, q1, q2]; exact ((wormtubref04_Run_ok fuel c (MPot.mk p.volume (MSpan.mk p.alcohol.lo p.alcohol.hi)) l W A0 c0 l0 s0 A1 c1 l1 s1 A2 c2 l2 s2 r4 e4).mono fun e w' hx => by obtain ⟨v, h1, h2, h3, h4⟩ := hx; exact ⟨v, h1, h2, h3, h4.mono fun _ _ h => .inl h⟩)⟩, trivial⟩ ?_
      clear S; intro E a w S
      obtain ⟨E, S⟩ := St.read 2 0 1003 ⟨r4.1.length, 3, fun i => [.int .i64 ((r4.1.getD i default).amount), .int .i64 (((r4.1.getD i default).alcohol).lo), .int .i64 (((r4.1.getD i default).alcohol).hi)]⟩ (⟨[(2, .sl 2), (3, .v (.int .i64 from')), (4, .v (.int .i64 target)), (13, .sl 1003), (12, .v (.int .i64 r4.2.2))], ⟨[(2, .held (SlicesAre 0 [⟨r4.1.length, 3, fun i => [.int .i64 ((r4.1.getD i default).amount), .int .i64 (((r4.1.getD i default).alcohol).lo), .int .i64 (((r4.1.getD i default).alcohol).hi)]⟩]))], ((1003, ⟨r4.1.length, 3, fun i => [.int .i64 ((r4.1.getD i default).amount), .int .i64 (((r4.1.getD i default).alcohol).lo), .int .i64 (((r4.1.getD i default).alcohol).hi)]⟩) :: (wormtubref04_Heart_R c l)), []⟩⟩) rfl (fun v w h => h.1) (by intro _ h; cases h) (by kernel_rfl) (by kernel_rfl) S
      refine wp_seq ?_
      refine sym_seq lay_ok mixed [] [2, 3, 4, 13, 12, 46] [] (⟨[(2, .sl 2), (3, .v (.int .i64 from')), (4, .v (.int .i64 target)), (13, .sl 1003), (12, .v (.int .i64 r4.2.2)), (46, .v (.bool (r4.2.2 != 0)))], ⟨[], ((1003, ⟨r4.1.length, 3, fun i => [.int .i64 ((r4.1.getD i default).amount), .int .i64 (((r4.1.getD i default).alcohol).lo), .int .i64 (((r4.1.getD i default).alcohol).hi)]⟩) :: (wormtubref04_Heart_R c l)), []⟩⟩) [] S (by kernel_rfl) (by kernel_rfl) (by kernel_rfl) trivial ?_
      clear S; intro E a w S
      refine sym_if_last (b := (r4.2.2 != 0)) S rfl (fun hb3 => ?_) (fun hb3 => ?_)
      · have h := bif_t hb3 h
        refine sym_seq lay_ok mixed [] [10, 11] [] (⟨[(10, .v (.int .i64 0)), (11, .v (.int .i64 r4.2.2))], ⟨[], ((1003, ⟨r4.1.length, 3, fun i => [.int .i64 ((r4.1.getD i default).amount), .int .i64 (((r4.1.getD i default).alcohol).lo), .int .i64 (((r4.1.getD i default).alcohol).hi)]⟩) :: (wormtubref04_Heart_R c l)), []⟩⟩) [] S (by kernel_rfl) (by kernel_rfl) (by kernel_rfl) trivial ?_
        clear S; intro E a w S
        refine wp_ret ?_
        refine out_then_ret ?_
        have h := Option.some.inj h
        subst h
        exact sym_ret lay_ok [.v (.int .i64 0), .v (.int .i64 r4.2.2)] (by kernel_rfl) rfl S ⟨rfl, S.below rfl⟩
      · have h := bif_f hb3 h
        refine wp_skip ?_
        refine out_then_normal ?_
        refine sym_seq lay_ok mixed [] [2, 3, 4, 13, 15] [] (⟨[(2, .sl 2), (3, .v (.int .i64 from')), (4, .v (.int .i64 target)), (13, .sl 1003), (15, .v (.int .i64 (-1)))], ⟨[], ((1003, ⟨r4.1.length, 3, fun i => [.int .i64 ((r4.1.getD i default).amount), .int .i64 (((r4.1.getD i default).alcohol).lo), .int .i64 (((r4.1.getD i default).alcohol).hi)]⟩) :: (wormtubref04_Heart_R c l)), []⟩⟩) [] S (by kernel_rfl) (by kernel_rfl) (by kernel_rfl) trivial ?_
        clear S; intro E a w S
        refine sym_seq lay_ok mixed [] [2, 3, 4, 13, 15, 16, 17] [] (⟨[(2, .sl 2), (3, .v (.int .i64 from')), (4, .v (.int .i64 target)), (13, .sl 1003), (15, .v (.int .i64 (-1))), (16, .v (.int .i64 0)), (17, .v (.int .i64 0))], ⟨[], ((1003, ⟨r4.1.length, 3, fun i => [.int .i64 ((r4.1.getD i default).amount), .int .i64 (((r4.1.getD i default).alcohol).lo), .int .i64 (((r4.1.getD i default).alcohol).hi)]⟩) :: (wormtubref04_Heart_R c l)), []⟩⟩) [] S (by kernel_rfl) (by kernel_rfl) (by kernel_rfl) trivial ?_
        clear S; intro E a w S
        refine wp_seq ?_
        refine sym_seq lay_ok mixed [] [2, 4, 13, 15, 16, 17, 18] [] (⟨[(2, .sl 2), (4, .v (.int .i64 target)), (13, .sl 1003), (15, .v (.int .i64 (-1))), (16, .v (.int .i64 0)), (17, .v (.int .i64 0)), (18, .v (.int .i64 from'))], ⟨[], ((1003, ⟨r4.1.length, 3, fun i => [.int .i64 ((r4.1.getD i default).amount), .int .i64 (((r4.1.getD i default).alcohol).lo), .int .i64 (((r4.1.getD i default).alcohol).hi)]⟩) :: (wormtubref04_Heart_R c l)), []⟩⟩) [] S (by kernel_rfl) (by kernel_rfl) (by kernel_rfl) trivial ?_
        clear S; intro E a w S
        obtain ⟨lr1, e5, hp1⟩ := bind_some h
        clear h
        refine sym_block_last (G := fun a w => ∃ E, ∃ x1 : Int, wormtubref04_Heart_k1 x1 = some res ∧ St ⟨W, noC, Go.Proofs.Try.f30.ntmps, [], allR, noρ, (envOf [(0, ⟨A0, c.liquid.length, c0, 1⟩), (1, ⟨A1, c.vapour.length, c1, 2⟩), (2, ⟨A2, l.length, c2, 1⟩)]).sl, (envOf [(0, ⟨A0, c.liquid.length, c0, 1⟩), (1, ⟨A1, c.vapour.length, c1, 2⟩), (2, ⟨A2, l.length, c2, 1⟩)]).x⟩ (⟨[(15, .v (.int .i64 x1))], ⟨[], ((1003, ⟨r4.1.length, 3, fun i => [.int .i64 ((r4.1.getD i default).amount), .int .i64 (((r4.1.getD i default).alcohol).lo), .int .i64 (((r4.1.getD i default).alcohol).hi)]⟩) :: (wormtubref04_Heart_R c l)), []⟩⟩) E a w) ?_ ?_
        · refine wp_loop_rounds fuel ?_
          refine sym_rounds (F := fun n b1 => wormtubref04_Heart_l1 l target r4 n b1 = some lr1) (H := fun b1 => ⟨[(2, .sl 2), (4, .v (.int .i64 target)), (13, .sl 1003), (15, .v (.int .i64 b1.1)), (16, .v (.int .i64 b1.2.1)), (17, .v (.int .i64 b1.2.2.1)), (18, .v (.int .i64 b1.2.2.2))], ⟨[], ((1003, ⟨r4.1.length, 3, fun i => [.int .i64 ((r4.1.getD i default).amount), .int .i64 (((r4.1.getD i default).alcohol).lo), .int .i64 (((r4.1.getD i default).alcohol).hi)]⟩) :: (wormtubref04_Heart_R c l)), []⟩⟩) ((-1), 0, 0, from') (fun b hb => by have hb : none = some lr1 := hb; cases hb) ?_ _ _ _ _ e5 (St.cast (P := Go.Proofs.Try.prog) [] [] [2, 4, 13, 15, 16, 17, 18] [] [1003, 0, 1, 2] _ [] (by kernel_rfl) trivial S)
          clear e5 S
          intro n b1 E a w h ih S
          rw [wormtubref04_Heart_l1] at h
          refine wp_seq ?_
          refine sym_seq lay_ok mixed [] [2, 4, 13, 15, 16, 17, 18, 52] [] (⟨[(2, .sl 2), (4, .v (.int .i64 target)), (13, .sl 1003), (15, .v (.int .i64 b1.1)), (16, .v (.int .i64 b1.2.1)), (17, .v (.int .i64 b1.2.2.1)), (18, .v (.int .i64 b1.2.2.2)), (52, .v (.bool (decide (b1.2.2.2 < ((l.length : Nat) : Int)))))], ⟨[], ((1003, ⟨r4.1.length, 3, fun i => [.int .i64 ((r4.1.getD i default).amount), .int .i64 (((r4.1.getD i default).alcohol).lo), .int .i64 (((r4.1.getD i default).alcohol).hi)]⟩) :: (wormtubref04_Heart_R c l)), []⟩⟩) [] S (by kernel_rfl) (by kernel_rfl) (by kernel_rfl) trivial ?_
          clear S; intro E a w S
          refine sym_if_last (b := decide (b1.2.2.2 < ((l.length : Nat) : Int))) S rfl (fun hb4 => ?_) (fun hb4 => ?_)
          · have h := bif_t hb4 h
            refine wp_skip ?_
            refine out_then_normal ?_
            refine wp_seq ?_
            refine wp_block ?_
            obtain ⟨⟨g2, g3⟩, h⟩ := grd_some h
            refine sym_seq lay_ok mixed [] [2, 4, 13, 15, 16, 17, 18] [] (⟨[(2, .sl 2), (4, .v (.int .i64 target)), (13, .sl 1003), (15, .v (.int .i64 b1.1)), (16, .v (.int .i64 (b1.2.1 + (((r4.1.getD (Int.toNat b1.2.2.2) default).alcohol).lo)))), (17, .v (.int .i64 b1.2.2.1)), (18, .v (.int .i64 b1.2.2.2))], ⟨[], ((1003, ⟨r4.1.length, 3, fun i => [.int .i64 ((r4.1.getD i default).amount), .int .i64 (((r4.1.getD i default).alcohol).lo), .int .i64 (((r4.1.getD i default).alcohol).hi)]⟩) :: (wormtubref04_Heart_R c l)), []⟩⟩) [.idx b1.2.2.2 r4.1.length, .idx b1.2.2.2 r4.1.length, .idx b1.2.2.2 r4.1.length, .idx b1.2.2.2 r4.1.length, .rng .i64 (b1.2.1 + (((r4.1.getD (Int.toNat b1.2.2.2) default).alcohol).lo))] S (by kernel_rfl) (by kernel_rfl) (by kernel_rfl) ⟨g2, g2, g2, g2, rngI64 g3, trivial⟩ ?_
            clear S; intro E a w S
            obtain ⟨⟨g4, g5⟩, h⟩ := grd_some h
            refine sym_seq lay_ok mixed [] [2, 4, 13, 15, 16, 17, 18] [] (⟨[(2, .sl 2), (4, .v (.int .i64 target)), (13, .sl 1003), (15, .v (.int .i64 b1.1)), (16, .v (.int .i64 (b1.2.1 + (((r4.1.getD (Int.toNat b1.2.2.2) default).alcohol).lo)))), (17, .v (.int .i64 (b1.2.2.1 + (l.getD (Int.toNat b1.2.2.2) default)))), (18, .v (.int .i64 b1.2.2.2))], ⟨[], ((1003, ⟨r4.1.length, 3, fun i => [.int .i64 ((r4.1.getD i default).amount), .int .i64 (((r4.1.getD i default).alcohol).lo), .int .i64 (((r4.1.getD i default).alcohol).hi)]⟩) :: (wormtubref04_Heart_R c l)), []⟩⟩) [.idx b1.2.2.2 l.length, .idx b1.2.2.2 l.length, .rng .i64 (b1.2.2.1 + (l.getD (Int.toNat b1.2.2.2) default))] S (by kernel_rfl) (by kernel_rfl) (by kernel_rfl) ⟨g4, g4, rngI64 g5, trivial⟩ ?_
            clear S; intro E a w S
            obtain ⟨⟨g6, g7⟩, h⟩ := grd_some h
            refine sym_seq lay_ok mixed [] [2, 4, 13, 15, 16, 17, 18, 74] [] (⟨[(2, .sl 2), (4, .v (.int .i64 target)), (13, .sl 1003), (15, .v (.int .i64 b1.1)), (16, .v (.int .i64 (b1.2.1 + (((r4.1.getD (Int.toNat b1.2.2.2) default).alcohol).lo)))), (17, .v (.int .i64 (b1.2.2.1 + (l.getD (Int.toNat b1.2.2.2) default)))), (18, .v (.int .i64 b1.2.2.2)), (74, .v (.bool (decide ((target * (b1.2.2.1 + (l.getD (Int.toNat b1.2.2.2) default))) ≤ ((b1.2.1 + (((r4.1.getD (Int.toNat b1.2.2.2) default).alcohol).lo)) * 10000)))))], ⟨[], ((1003, ⟨r4.1.length, 3, fun i => [.int .i64 ((r4.1.getD i default).amount), .int .i64 (((r4.1.getD i default).alcohol).lo), .int .i64 (((r4.1.getD i default).alcohol).hi)]⟩) :: (wormtubref04_Heart_R c l)), []⟩⟩) [.rng .i64 ((b1.2.1 + (((r4.1.getD (Int.toNat b1.2.2.2) default).alcohol).lo)) * 10000), .rng .i64 (target * (b1.2.2.1 + (l.getD (Int.toNat b1.2.2.2) default)))] S (by kernel_rfl) (by kernel_rfl) (by kernel_rfl) ⟨rngI64 g6, rngI64 g7, trivial⟩ ?_
            clear S; intro E a w S
            refine sym_if_last (b := decide ((target * (b1.2.2.1 + (l.getD (Int.toNat b1.2.2.2) default))) ≤ ((b1.2.1 + (((r4.1.getD (Int.toNat b1.2.2.2) default).alcohol).lo)) * 10000))) S rfl (fun hb5 => ?_) (fun hb5 => ?_)
            · have h := bif_t hb5 h
              refine sym_last lay_ok mixed [] [2, 4, 13, 15, 16, 17, 18] [] (⟨[(2, .sl 2), (4, .v (.int .i64 target)), (13, .sl 1003), (15, .v (.int .i64 b1.2.2.2)), (16, .v (.int .i64 (b1.2.1 + (((r4.1.getD (Int.toNat b1.2.2.2) default).alcohol).lo)))), (17, .v (.int .i64 (b1.2.2.1 + (l.getD (Int.toNat b1.2.2.2) default)))), (18, .v (.int .i64 b1.2.2.2))], ⟨[], ((1003, ⟨r4.1.length, 3, fun i => [.int .i64 ((r4.1.getD i default).amount), .int .i64 (((r4.1.getD i default).alcohol).lo), .int .i64 (((r4.1.getD i default).alcohol).hi)]⟩) :: (wormtubref04_Heart_R c l)), []⟩⟩) [] S (by kernel_rfl) (by kernel_rfl) (by kernel_rfl) trivial ?_
              clear S; intro E a w S
              refine out_block_normal ?_
              refine out_then_normal ?_
              obtain ⟨g8, h⟩ := grd_some h
              refine sym_last lay_ok mixed [] [2, 4, 13, 15, 16, 17, 18] [] (⟨[(2, .sl 2), (4, .v (.int .i64 target)), (13, .sl 1003), (15, .v (.int .i64 b1.2.2.2)), (16, .v (.int .i64 (b1.2.1 + (((r4.1.getD (Int.toNat b1.2.2.2) default).alcohol).lo)))), (17, .v (.int .i64 (b1.2.2.1 + (l.getD (Int.toNat b1.2.2.2) default)))), (18, .v (.int .i64 (b1.2.2.2 + 1)))], ⟨[], ((1003, ⟨r4.1.length, 3, fun i => [.int .i64 ((r4.1.getD i default).amount), .int .i64 (((r4.1.getD i default).alcohol).lo), .int .i64 (((r4.1.getD i default).alcohol).hi)]⟩) :: (wormtubref04_Heart_R c l)), []⟩⟩) [.rng .i64 (b1.2.2.2 + 1)] S (by kernel_rfl) (by kernel_rfl) (by kernel_rfl) ⟨rngI64 g8, trivial⟩ ?_
              clear S; intro E a w S
              refine out_then_normal ?_
              exact ih (b1.2.2.2, (b1.2.1 + (((r4.1.getD (Int.toNat b1.2.2.2) default).alcohol).lo)), (b1.2.2.1 + (l.getD (Int.toNat b1.2.2.2) default)), (b1.2.2.2 + 1)) _ _ _ h (St.cast (P := Go.Proofs.Try.prog) [] [] [2, 4, 13, 15, 16, 17, 18] [] [1003, 0, 1, 2] _ [] (by kernel_rfl) trivial S)
            · have h := bif_f hb5 h
              refine wp_skip ?_
              refine out_block_normal ?_
              refine out_then_normal ?_
              obtain ⟨g9, h⟩ := grd_some h
              refine sym_last lay_ok mixed [] [2, 4, 13, 15, 16, 17, 18] [] (⟨[(2, .sl 2), (4, .v (.int .i64 target)), (13, .sl 1003), (15, .v (.int .i64 b1.1)), (16, .v (.int .i64 (b1.2.1 + (((r4.1.getD (Int.toNat b1.2.2.2) default).alcohol).lo)))), (17, .v (.int .i64 (b1.2.2.1 + (l.getD (Int.toNat b1.2.2.2) default)))), (18, .v (.int .i64 (b1.2.2.2 + 1)))], ⟨[], ((1003, ⟨r4.1.length, 3, fun i => [.int .i64 ((r4.1.getD i default).amount), .int .i64 (((r4.1.getD i default).alcohol).lo), .int .i64 (((r4.1.getD i default).alcohol).hi)]⟩) :: (wormtubref04_Heart_R c l)), []⟩⟩) [.rng .i64 (b1.2.2.2 + 1)] S (by kernel_rfl) (by kernel_rfl) (by kernel_rfl) ⟨rngI64 g9, trivial⟩ ?_
              clear S; intro E a w S
              refine out_then_normal ?_
              exact ih (b1.1, (b1.2.1 + (((r4.1.getD (Int.toNat b1.2.2.2) default).alcohol).lo)), (b1.2.2.1 + (l.getD (Int.toNat b1.2.2.2) default)), (b1.2.2.2 + 1)) _ _ _ h (St.cast (P := Go.Proofs.Try.prog) [] [] [2, 4, 13, 15, 16, 17, 18] [] [1003, 0, 1, 2] _ [] (by kernel_rfl) trivial S)
          · have h := bif_f hb4 h
            refine wp_exit ?_
            refine out_then_exit ?_
            refine out_then_exit ?_
            refine out_block_here ?_
            refine out_then_normal ?_
            have hr := Option.some.inj h
            subst hr
            exact ⟨_, b1.1, hp1, St.cast (P := Go.Proofs.Try.prog) [] [] [15] [] [1003, 0, 1, 2] _ [] (by kernel_rfl) trivial S⟩
        clear e5 S
        rintro a w ⟨E, x1, h, S⟩
        rw [wormtubref04_Heart_k1] at h
        refine out_then_normal ?_
        refine wp_seq ?_
        refine sym_seq lay_ok mixed [] [15, 77] [] (⟨[(15, .v (.int .i64 x1)), (77, .v (.bool (decide (x1 < 0))))], ⟨[], ((1003, ⟨r4.1.length, 3, fun i => [.int .i64 ((r4.1.getD i default).amount), .int .i64 (((r4.1.getD i default).alcohol).lo), .int .i64 (((r4.1.getD i default).alcohol).hi)]⟩) :: (wormtubref04_Heart_R c l)), []⟩⟩) [] S (by kernel_rfl) (by kernel_rfl) (by kernel_rfl) trivial ?_
        clear S; intro E a w S
        refine sym_if_last (b := decide (x1 < 0)) S rfl (fun hb6 => ?_) (fun hb6 => ?_)
        · have h := bif_t hb6 h
          refine sym_seq lay_ok mixed [] [10, 11] [] (⟨[(10, .v (.int .i64 0)), (11, .v (.int .i64 4))], ⟨[], ((1003, ⟨r4.1.length, 3, fun i => [.int .i64 ((r4.1.getD i default).amount), .int .i64 (((r4.1.getD i default).alcohol).lo), .int .i64 (((r4.1.getD i default).alcohol).hi)]⟩) :: (wormtubref04_Heart_R c l)), []⟩⟩) [] S (by kernel_rfl) (by kernel_rfl) (by kernel_rfl) trivial ?_
          clear S; intro E a w S
          refine wp_ret ?_
          refine out_then_ret ?_
          have h := Option.some.inj h
          subst h
          exact sym_ret lay_ok [.v (.int .i64 0), .v (.int .i64 4)] (by kernel_rfl) rfl S ⟨rfl, S.below rfl⟩
        · have h := bif_f hb6 h
          refine wp_skip ?_
          refine out_then_normal ?_
          refine sym_seq lay_ok mixed [] [10, 11] [] (⟨[(10, .v (.int .i64 x1)), (11, .v (.int .i64 0))], ⟨[], ((1003, ⟨r4.1.length, 3, fun i => [.int .i64 ((r4.1.getD i default).amount), .int .i64 (((r4.1.getD i default).alcohol).lo), .int .i64 (((r4.1.getD i default).alcohol).hi)]⟩) :: (wormtubref04_Heart_R c l)), []⟩⟩) [] S (by kernel_rfl) (by kernel_rfl) (by kernel_rfl) trivial ?_
          clear S; intro E a w S
          refine wp_ret ?_
          have h := Option.some.inj h
          subst h
          exact sym_ret lay_ok [.v (.int .i64 x1), .v (.int .i64 0)] (by kernel_rfl) rfl S ⟨rfl, S.below rfl⟩
def still_Cuts_R (c : MCurve) (amounts : List Int) : List (Nat × Q) := [(0, ⟨c.liquid.length, 1, fun i => [.int .i64 (c.liquid.getD i default)]⟩), (1, ⟨c.vapour.length, 2, fun i => [.int .i64 ((c.vapour.getD i default).lo), .int .i64 ((c.vapour.getD i default).hi)]⟩), (2, ⟨amounts.length, 1, fun i => [.int .i64 (amounts.getD i default)]⟩)]
def still_Cuts_k1  (x1 : List Int) : Option (List Int × Int) :=
some (x1, 0)
def still_Cuts_l1 (fore : Int) (cut : Int) (end' : Int) (r2 : (List MDrawn × MPot × Int)) : Nat → (Int × Int × List Int) → Option (Lp (List Int) (List Int × Int))
  | 0, _ => none
  | n + 1, b1 =>
    (bif decide (b1.2.1 < ((r2.1.length : Nat) : Int)) then
    (grd (((0 : Int) ≤ b1.2.1 ∧ (b1.2.1 : Int) < ((r2.1.length : Nat) : Int))) <|
    grd (InI64 (b1.1 + ((r2.1.getD (Int.toNat b1.2.1) default).amount))) <|
    (bif decide (fore < (b1.1 + ((r2.1.getD (Int.toNat b1.2.1) default).amount))) then
    ((still_strength (MSpan.mk (((r2.1.getD (Int.toNat b1.2.1) default).alcohol).lo) (((r2.1.getD (Int.toNat b1.2.1) default).alcohol).hi)) ((r2.1.getD (Int.toNat b1.2.1) default).amount)).bind fun (r3 : MSpan) =>
    (still_kindsOf r3 cut end').bind fun (r4 : Int) =>
    grd ((b1.2.2.length + 1 ≤ 1000000)) <|
    grd (InI64 (b1.2.1 + 1)) <|
    still_Cuts_l1 fore cut end' r2 n ((b1.1 + ((r2.1.getD (Int.toNat b1.2.1) default).amount)), (b1.2.1 + 1), (b1.2.2 ++ [r4])))
    else
    (grd ((b1.2.2.length + 1 ≤ 1000000)) <|
    grd (InI64 (b1.2.1 + 1)) <|
    still_Cuts_l1 fore cut end' r2 n ((b1.1 + ((r2.1.getD (Int.toNat b1.2.1) default).amount)), (b1.2.1 + 1), (b1.2.2 ++ [1])))))
    else
    (some (Lp.done b1.2.2)))
def still_Cuts (fuel : Nat) (c : MCurve) (p : MPot) (amounts : List Int) (fore : Int) (cut : Int) (end' : Int) : Option (List Int × Int) :=
(still_check fuel c (MPot.mk p.volume (MSpan.mk p.alcohol.lo p.alcohol.hi)) amounts).bind fun (r1 : Int) =>
(bif (r1 != 0) then
(some ([], r1))
else
((bif ((((decide (fore < 0) || decide (1073741824 < fore)) || decide (end' < 0)) || decide (cut < end')) || decide (10000 < cut)) then
(some ([], 2))
else
((runOf fuel c (MPot.mk p.volume (MSpan.mk p.alcohol.lo p.alcohol.hi)) amounts).bind fun (r2 : (List MDrawn × MPot × Int)) =>
(bif (r2.2.2 != 0) then
(some ([], r2.2.2))
else
((still_Cuts_l1 fore cut end' r2 fuel (0, 0, ([] : List Int))).bind fun lr1 => lr1.go fun x1 => still_Cuts_k1 x1))))))
set_option maxRecDepth 100000 in
set_option maxHeartbeats 4000000 in
theorem still_Cuts_ok (fuel : Nat) (c : MCurve) (p : MPot) (amounts : List Int) (fore : Int) (cut : Int) (end' : Int) (W : World) (A0 : Option Addr) (c0 : Nat) (h0 : c.liquid.length ≤ c0) (s0 : SlAt W A0 c.liquid.length 1 fun i => [.int .i64 (c.liquid.getD i default)]) (A1 : Option Addr) (c1 : Nat) (h1 : c.vapour.length ≤ c1) (s1 : SlAt W A1 c.vapour.length 2 fun i => [.int .i64 ((c.vapour.getD i default).lo), .int .i64 ((c.vapour.getD i default).hi)]) (A2 : Option Addr) (c2 : Nat) (h2 : amounts.length ≤ c2) (s2 : SlAt W A2 amounts.length 1 fun i => [.int .i64 (amounts.getD i default)]) (res : List Int × Int) (h : still_Cuts fuel c p amounts fore cut end' = some res) :
    Calls Go.Proofs.Try.prog 27 #[.agg #[.slice A0 c.liquid.length c0, .slice A1 c.vapour.length c1], .agg #[.int .i64 p.volume, .int .i64 p.alcohol.lo, .int .i64 p.alcohol.hi], .slice A2 amounts.length c2, .int .i64 fore, .int .i64 cut, .int .i64 end'] W fun e w' => ∃ v : Nat → Value, e = .returned (.tuple #[v 0, .int .i64 res.2]) ∧ Below W.heap.size W w' ∧ (∀ i, (v i).oneCell' = true) ∧ HeldIn (fun k => W.heap.size ≤ k) w' (SlicesAre 0 [⟨res.1.length, 1, fun i => [.int .i64 (res.1.getD i default)]⟩] v) := by
  refine sym_call (f := 27) (fn := Go.Proofs.Try.f27) (c := Go.Proofs.Try.f27.body.get rfl) Go.Proofs.Try.func27 rfl [.agg [.sl 0, .sl 1], .agg [.v (.int .i64 p.volume), .v (.int .i64 p.alcohol.lo), .v (.int .i64 p.alcohol.hi)], .sl 2, .v (.int .i64 fore), .v (.int .i64 cut), .v (.int .i64 end')] (still_Cuts_R c amounts) [] (envOf [(0, ⟨A0, c.liquid.length, c0, 1⟩), (1, ⟨A1, c.vapour.length, c1, 2⟩), (2, ⟨A2, amounts.length, c2, 1⟩)]) allR (fun _ _ => rfl) (by kernel_rfl) (envOf_one trivial) ⟨s0.rd h0, s1.rd h1, s2.rd h2, trivial⟩ (AllRR.all _ _) trivial fun E a w S => ?_
  rw [still_Cuts] at h
  refine sym_seq lay_ok mixed [(0, { g := 0 }), (1, { g := 1 })] [2, 3, 4, 5, 6, 7] [0, 1] (⟨[(2, .sl 2), (3, .v (.int .i64 fore)), (4, .v (.int .i64 cut)), (5, .v (.int .i64 end')), (6, .own 0 0), (7, .own 1 0)], ⟨[(0, .blk 25 [.sl 0, .sl 1]), (1, .blk 29 [.v (.int .i64 p.volume), .v (.int .i64 p.alcohol.lo), .v (.int .i64 p.alcohol.hi)])], (still_Cuts_R c amounts), []⟩⟩) [] S (by kernel_rfl) (by kernel_rfl) (by kernel_rfl) trivial ?_
  clear S; intro E a w S
  refine wp_seq ?_
  obtain ⟨r1, e1, h⟩ := bind_some h
  refine sym_seq lay_ok mixed [(3, { res := .v (.int .i64 r1) })] [2, 3, 4, 5, 6, 7, 14] [0, 1] (⟨[(2, .sl 2), (3, .v (.int .i64 fore)), (4, .v (.int .i64 cut)), (5, .v (.int .i64 end')), (6, .own 0 0), (7, .own 1 0), (14, .v (.int .i64 r1))], ⟨[(0, .blk 25 [.sl 0, .sl 1]), (1, .blk 29 [.v (.int .i64 p.volume), .v (.int .i64 p.alcohol.lo), .v (.int .i64 p.alcohol.hi)])], (still_Cuts_R c amounts), []⟩⟩) [.call ⟨[], (still_Cuts_R c amounts), []⟩ 53 [.agg [.sl 0, .sl 1], .agg [.v (.int .i64 p.volume), .v (.int .i64 p.alcohol.lo), .v (.int .i64 p.alcohol.hi)], .sl 2] (.v (.int .i64 r1))] S (by kernel_rfl) (by kernel_rfl) (by kernel_rfl) ⟨⟨enters_53, fun E W _ hm => by obtain ⟨A0, c0, q0, l0, s0, _⟩ := Mem.sl hm (s := 0) rfl; obtain ⟨A1, c1, q1, l1, s1, _⟩ := Mem.sl hm (s := 1) rfl; obtain ⟨A2, c2, q2, l2, s2, _⟩ := Mem.sl hm (s := 2) rfl; simp only [SV.vals, SV.val, q0, q1, q2]; exact still_check_ok fuel c (MPot.mk p.volume (MSpan.mk p.alcohol.lo p.alcohol.hi)) amounts W A0 c0 l0 s0 A1 c1 l1 s1 A2 c2 l2 s2 r1 e1⟩, trivial⟩ ?_
  clear S; intro E a w S
  refine sym_seq lay_ok mixed [] [2, 3, 4, 5, 6, 7, 14, 28] [0, 1] (⟨[(2, .sl 2), (3, .v (.int .i64 fore)), (4, .v (.int .i64 cut)), (5, .v (.int .i64 end')), (6, .own 0 0), (7, .own 1 0), (14, .v (.int .i64 r1)), (28, .v (.bool (r1 != 0)))], ⟨[(0, .blk 25 [.sl 0, .sl 1]), (1, .blk 29 [.v (.int .i64 p.volume), .v (.int .i64 p.alcohol.lo), .v (.int .i64 p.alcohol.hi)])], (still_Cuts_R c amounts), []⟩⟩) [] S (by kernel_rfl) (by kernel_rfl) (by kernel_rfl) trivial ?_
  clear S; intro E a w S
  refine sym_if_last (b := (r1 != 0)) S rfl (fun hb1 => ?_) (fun hb1 => ?_)
  · have h := bif_t hb1 h
    refine sym_seq lay_ok mixed [] [12, 13] [] (⟨[(12, .v (.slice none 0 0)), (13, .v (.int .i64 r1))], ⟨[], (still_Cuts_R c amounts), []⟩⟩) [] S (by kernel_rfl) (by kernel_rfl) (by kernel_rfl) trivial ?_
    clear S; intro E a w S
    refine wp_ret ?_
    refine out_then_ret ?_
    have h := Option.some.inj h
    subst h
    exact sym_ret lay_ok [.v (.slice none 0 0), .v (.int .i64 r1)] (by kernel_rfl) rfl S ⟨vfun [.slice none 0 0], rfl, S.below rfl, vfun_one [.slice none 0 0] ⟨rfl, trivial⟩, ((HeldIn.true fun _ => ⟨_, _, rfl, Nat.le_refl _, SlAt.nil⟩).and (HeldIn.true fun _ => trivial))⟩
  · have h := bif_f hb1 h
    refine wp_skip ?_
    refine out_then_normal ?_
    refine wp_seq ?_
    refine sym_seq lay_ok mixed [(3, { og := true }), (4, { og := true }), (5, { pk := true }), (7, { og := true }), (8, { og := true }), (9, { pk := true }), (11, { og := true }), (12, { og := true }), (13, { og := true }), (14, { pk := true }), (16, { og := true }), (17, { og := true }), (18, { pk := true })] [2, 3, 4, 5, 6, 7, 48] [0, 1] (⟨[(2, .sl 2), (3, .v (.int .i64 fore)), (4, .v (.int .i64 cut)), (5, .v (.int .i64 end')), (6, .own 0 0), (7, .own 1 0), (48, .v (.bool ((((decide (fore < 0) || decide (1073741824 < fore)) || decide (end' < 0)) || decide (cut < end')) || decide (10000 < cut))))], ⟨[(0, .blk 25 [.sl 0, .sl 1]), (1, .blk 29 [.v (.int .i64 p.volume), .v (.int .i64 p.alcohol.lo), .v (.int .i64 p.alcohol.hi)])], (still_Cuts_R c amounts), []⟩⟩) [.imp (!(decide (fore < 0))) (!(decide (fore < 0))), .imp (!(decide (fore < 0))) (!(decide (fore < 0))), .imp (!(decide (fore < 0) || decide (1073741824 < fore))) (!(decide (fore < 0) || decide (1073741824 < fore))), .imp (!(decide (fore < 0) || decide (1073741824 < fore))) (!(decide (fore < 0) || decide (1073741824 < fore))), .imp (!((decide (fore < 0) || decide (1073741824 < fore)) || decide (end' < 0))) (!((decide (fore < 0) || decide (1073741824 < fore)) || decide (end' < 0))), .imp (!((decide (fore < 0) || decide (1073741824 < fore)) || decide (end' < 0))) (!((decide (fore < 0) || decide (1073741824 < fore)) || decide (end' < 0))), .imp (!((decide (fore < 0) || decide (1073741824 < fore)) || decide (end' < 0))) (!((decide (fore < 0) || decide (1073741824 < fore)) || decide (end' < 0))), .imp (!(((decide (fore < 0) || decide (1073741824 < fore)) || decide (end' < 0)) || decide (cut < end'))) (!(((decide (fore < 0) || decide (1073741824 < fore)) || decide (end' < 0)) || decide (cut < end'))), .imp (!(((decide (fore < 0) || decide (1073741824 < fore)) || decide (end' < 0)) || decide (cut < end'))) (!(((decide (fore < 0) || decide (1073741824 < fore)) || decide (end' < 0)) || decide (cut < end')))] S (by kernel_rfl) (by kernel_rfl) (by kernel_rfl) ⟨fun h => h, fun h => h, fun h => h, fun h => h, fun h => h, fun h => h, fun h => h, fun h => h, fun h => h, trivial⟩ ?_
    clear S; intro E a w S
    refine sym_if_last (b := ((((decide (fore < 0) || decide (1073741824 < fore)) || decide (end' < 0)) || decide (cut < end')) || decide (10000 < cut))) S rfl (fun hb2 => ?_) (fun hb2 => ?_)
    · have h := bif_t hb2 h
      refine sym_seq lay_ok mixed [] [12, 13] [] (⟨[(12, .v (.slice none 0 0)), (13, .v (.int .i64 2))], ⟨[], (still_Cuts_R c amounts), []⟩⟩) [] S (by kernel_rfl) (by kernel_rfl) (by kernel_rfl) trivial ?_
      clear S; intro E a w S
      refine wp_ret ?_
      refine out_then_ret ?_
      have h := Option.some.inj h
      subst h
      exact sym_ret lay_ok [.v (.slice none 0 0), .v (.int .i64 2)] (by kernel_rfl) rfl S ⟨vfun [.slice none 0 0], rfl, S.below rfl, vfun_one [.slice none 0 0] ⟨rfl, trivial⟩, ((HeldIn.true fun _ => ⟨_, _, rfl, Nat.le_refl _, SlAt.nil⟩).and (HeldIn.true fun _ => trivial))⟩
    · have h := bif_f hb2 h
      refine wp_skip ?_
      refine out_then_normal ?_
      obtain ⟨r2, e2, h⟩ := bind_some h
      refine sym_seq lay_ok mixed [(3, { g := 2, res := .tup [.ltr 2 0, .agg [.v (.int .i64 r2.2.1.volume), .v (.int .i64 r2.2.1.alcohol.lo), .v (.int .i64 r2.2.1.alcohol.hi)], .v (.int .i64 r2.2.2)], hx := some (SlicesAre 0 [⟨r2.1.length, 3, fun i => [.int .i64 ((r2.1.getD i default).amount), .int .i64 (((r2.1.getD i default).alcohol).lo), .int .i64 (((r2.1.getD i default).alcohol).hi)]⟩]) }), (8, { g := 3 })] [3, 4, 5, 15, 17] [2] (⟨[(3, .v (.int .i64 fore)), (4, .v (.int .i64 cut)), (5, .v (.int .i64 end')), (15, .ltr 2 0), (17, .v (.int .i64 r2.2.2))], ⟨[(2, .held (SlicesAre 0 [⟨r2.1.length, 3, fun i => [.int .i64 ((r2.1.getD i default).amount), .int .i64 (((r2.1.getD i default).alcohol).lo), .int .i64 (((r2.1.getD i default).alcohol).hi)]⟩]))], (still_Cuts_R c amounts), []⟩⟩) [.callx ⟨[], (still_Cuts_R c amounts), []⟩ 2 22 [.agg [.sl 0, .sl 1], .agg [.v (.int .i64 p.volume), .v (.int .i64 p.alcohol.lo), .v (.int .i64 p.alcohol.hi)], .sl 2] (.tup [.ltr 2 0, .agg [.v (.int .i64 r2.2.1.volume), .v (.int .i64 r2.2.1.alcohol.lo), .v (.int .i64 r2.2.1.alcohol.hi)], .v (.int .i64 r2.2.2)]) (SlicesAre 0 [⟨r2.1.length, 3, fun i => [.int .i64 ((r2.1.getD i default).amount), .int .i64 (((r2.1.getD i default).alcohol).lo), .int .i64 (((r2.1.getD i default).alcohol).hi)]⟩])] S (by kernel_rfl) (by kernel_rfl) (by kernel_rfl) ⟨⟨enters_22, fun E W _ hm => by obtain ⟨A0, c0, q0, l0, s0, _⟩ := Mem.sl hm (s := 0) rfl; obtain ⟨A1, c1, q1, l1, s1, _⟩ := Mem.sl hm (s := 1) rfl; obtain ⟨A2, c2, q2, l2, s2, _⟩ := Mem.sl hm (s := 2) rfl; simp only [SV.vals, SV.val, q0, q1, q2]; exact ((runOf_ok fuel c (MPot.mk p.volume (MSpan.mk p.alcohol.lo p.alcohol.hi)) amounts W A0 c0 l0 s0 A1 c1 l1 s1 A2 c2 l2 s2 r2 e2).mono fun e w' hx => by obtain ⟨v, h1, h2, h3, h4⟩ := hx; exact ⟨v, h1, h2, h3, h4.mono fun _ _ h => .inl h⟩)⟩, trivial⟩ ?_
      clear S; intro E a w S
      obtain ⟨E, S⟩ := St.read 2 0 1003 ⟨r2.1.length, 3, fun i => [.int .i64 ((r2.1.getD i default).amount), .int .i64 (((r2.1.getD i default).alcohol).lo), .int .i64 (((r2.1.getD i default).alcohol).hi)]⟩ (⟨[(3, .v (.int .i64 fore)), (4, .v (.int .i64 cut)), (5, .v (.int .i64 end')), (15, .sl 1003), (17, .v (.int .i64 r2.2.2))], ⟨[(2, .held (SlicesAre 0 [⟨r2.1.length, 3, fun i => [.int .i64 ((r2.1.getD i default).amount), .int .i64 (((r2.1.getD i default).alcohol).lo), .int .i64 (((r2.1.getD i default).alcohol).hi)]⟩]))], ((1003, ⟨r2.1.length, 3, fun i => [.int .i64 ((r2.1.getD i default).amount), .int .i64 (((r2.1.getD i default).alcohol).lo), .int .i64 (((r2.1.getD i default).alcohol).hi)]⟩) :: (still_Cuts_R c amounts)), []⟩⟩) rfl (fun v w h => h.1) (by intro _ h; cases h) (by kernel_rfl) (by kernel_rfl) S
      refine wp_seq ?_
      refine sym_seq lay_ok mixed [] [3, 4, 5, 15, 17, 58] [] (⟨[(3, .v (.int .i64 fore)), (4, .v (.int .i64 cut)), (5, .v (.int .i64 end')), (15, .sl 1003), (17, .v (.int .i64 r2.2.2)), (58, .v (.bool (r2.2.2 != 0)))], ⟨[], ((1003, ⟨r2.1.length, 3, fun i => [.int .i64 ((r2.1.getD i default).amount), .int .i64 (((r2.1.getD i default).alcohol).lo), .int .i64 (((r2.1.getD i default).alcohol).hi)]⟩) :: (still_Cuts_R c amounts)), []⟩⟩) [] S (by kernel_rfl) (by kernel_rfl) (by kernel_rfl) trivial ?_
      clear S; intro E a w S
      refine sym_if_last (b := (r2.2.2 != 0)) S rfl (fun hb3 => ?_) (fun hb3 => ?_)
      · have h := bif_t hb3 h
        refine sym_seq lay_ok mixed [] [12, 13] [] (⟨[(12, .v (.slice none 0 0)), (13, .v (.int .i64 r2.2.2))], ⟨[], ((1003, ⟨r2.1.length, 3, fun i => [.int .i64 ((r2.1.getD i default).amount), .int .i64 (((r2.1.getD i default).alcohol).lo), .int .i64 (((r2.1.getD i default).alcohol).hi)]⟩) :: (still_Cuts_R c amounts)), []⟩⟩) [] S (by kernel_rfl) (by kernel_rfl) (by kernel_rfl) trivial ?_
        clear S; intro E a w S
        refine wp_ret ?_
        refine out_then_ret ?_
        have h := Option.some.inj h
        subst h
        exact sym_ret lay_ok [.v (.slice none 0 0), .v (.int .i64 r2.2.2)] (by kernel_rfl) rfl S ⟨vfun [.slice none 0 0], rfl, S.below rfl, vfun_one [.slice none 0 0] ⟨rfl, trivial⟩, ((HeldIn.true fun _ => ⟨_, _, rfl, Nat.le_refl _, SlAt.nil⟩).and (HeldIn.true fun _ => trivial))⟩
      · have h := bif_f hb3 h
        refine wp_skip ?_
        refine out_then_normal ?_
        refine sym_seq lay_ok mixed [] [3, 4, 5, 15, 18] [] (⟨[(3, .v (.int .i64 fore)), (4, .v (.int .i64 cut)), (5, .v (.int .i64 end')), (15, .sl 1003), (18, .v (.slice none 0 0))], ⟨[], ((1003, ⟨r2.1.length, 3, fun i => [.int .i64 ((r2.1.getD i default).amount), .int .i64 (((r2.1.getD i default).alcohol).lo), .int .i64 (((r2.1.getD i default).alcohol).hi)]⟩) :: (still_Cuts_R c amounts)), []⟩⟩) [] S (by kernel_rfl) (by kernel_rfl) (by kernel_rfl) trivial ?_
        clear S; intro E a w S
        refine sym_seq lay_ok mixed [] [3, 4, 5, 15, 18, 19] [] (⟨[(3, .v (.int .i64 fore)), (4, .v (.int .i64 cut)), (5, .v (.int .i64 end')), (15, .sl 1003), (18, .v (.slice none 0 0)), (19, .v (.int .i64 0))], ⟨[], ((1003, ⟨r2.1.length, 3, fun i => [.int .i64 ((r2.1.getD i default).amount), .int .i64 (((r2.1.getD i default).alcohol).lo), .int .i64 (((r2.1.getD i default).alcohol).hi)]⟩) :: (still_Cuts_R c amounts)), []⟩⟩) [] S (by kernel_rfl) (by kernel_rfl) (by kernel_rfl) trivial ?_
        clear S; intro E a w S
        refine wp_seq ?_
        refine sym_seq lay_ok mixed [] [3, 4, 5, 18, 19, 60, 61, 62] [] (⟨[(3, .v (.int .i64 fore)), (4, .v (.int .i64 cut)), (5, .v (.int .i64 end')), (18, .v (.slice none 0 0)), (19, .v (.int .i64 0)), (60, .sl 1003), (61, .v (.int .i64 ((r2.1.length : Nat) : Int))), (62, .v (.int .i64 0))], ⟨[], ((1003, ⟨r2.1.length, 3, fun i => [.int .i64 ((r2.1.getD i default).amount), .int .i64 (((r2.1.getD i default).alcohol).lo), .int .i64 (((r2.1.getD i default).alcohol).hi)]⟩) :: (still_Cuts_R c amounts)), []⟩⟩) [] S (by kernel_rfl) (by kernel_rfl) (by kernel_rfl) trivial ?_
        clear S; intro E a w S
        have S := S.nilgr 0 3 1
        have S := S.reslot (t := 18) (sv' := .gr 0) rfl (by simp [SV.val, SV.subG, Env.updG_same])
        obtain ⟨E, S⟩ : ∃ E, St ⟨W, noC, Go.Proofs.Try.f27.ntmps, [], allR, noρ, (envOf [(0, ⟨A0, c.liquid.length, c0, 1⟩), (1, ⟨A1, c.vapour.length, c1, 2⟩), (2, ⟨A2, amounts.length, c2, 1⟩)]).sl, (envOf [(0, ⟨A0, c.liquid.length, c0, 1⟩), (1, ⟨A1, c.vapour.length, c1, 2⟩), (2, ⟨A2, amounts.length, c2, 1⟩)]).x⟩ (⟨[(3, .v (.int .i64 fore)), (4, .v (.int .i64 cut)), (5, .v (.int .i64 end')), (18, .gr 0), (19, .v (.int .i64 0)), (60, .sl 1003), (61, .v (.int .i64 ((r2.1.length : Nat) : Int))), (62, .v (.int .i64 0))], ⟨[], ((1003, ⟨r2.1.length, 3, fun i => [.int .i64 ((r2.1.getD i default).amount), .int .i64 (((r2.1.getD i default).alcohol).lo), .int .i64 (((r2.1.getD i default).alcohol).hi)]⟩) :: (still_Cuts_R c amounts)), [(0, ⟨3, 1, ([] : List Int).length, ([] : List Int).flatMap (fun x => [.int .i64 x])⟩)]⟩⟩) E a w := ⟨_, St.pickG S [3, 4, 5, 18, 19, 60, 61, 62] [] [0] (⟨[(3, .v (.int .i64 fore)), (4, .v (.int .i64 cut)), (5, .v (.int .i64 end')), (18, .gr 0), (19, .v (.int .i64 0)), (60, .sl 1003), (61, .v (.int .i64 ((r2.1.length : Nat) : Int))), (62, .v (.int .i64 0))], ⟨[], ((1003, ⟨r2.1.length, 3, fun i => [.int .i64 ((r2.1.getD i default).amount), .int .i64 (((r2.1.getD i default).alcohol).lo), .int .i64 (((r2.1.getD i default).alcohol).hi)]⟩) :: (still_Cuts_R c amounts)), [(0, ⟨3, 1, ([] : List Int).length, ([] : List Int).flatMap (fun x => [.int .i64 x])⟩)]⟩⟩) (by kernel_rfl)⟩
        obtain ⟨lr1, e3, hp1⟩ := bind_some h
        clear h
        refine sym_block_last (G := fun a w => ∃ E, ∃ x1 : List Int, still_Cuts_k1 x1 = some res ∧ St ⟨W, noC, Go.Proofs.Try.f27.ntmps, [], allR, noρ, (envOf [(0, ⟨A0, c.liquid.length, c0, 1⟩), (1, ⟨A1, c.vapour.length, c1, 2⟩), (2, ⟨A2, amounts.length, c2, 1⟩)]).sl, (envOf [(0, ⟨A0, c.liquid.length, c0, 1⟩), (1, ⟨A1, c.vapour.length, c1, 2⟩), (2, ⟨A2, amounts.length, c2, 1⟩)]).x⟩ (⟨[(18, .gr 0)], ⟨[], ((1003, ⟨r2.1.length, 3, fun i => [.int .i64 ((r2.1.getD i default).amount), .int .i64 (((r2.1.getD i default).alcohol).lo), .int .i64 (((r2.1.getD i default).alcohol).hi)]⟩) :: (still_Cuts_R c amounts)), [(0, ⟨3, 1, x1.length, x1.flatMap (fun x => [.int .i64 x])⟩)]⟩⟩) E a w) ?_ ?_
        · refine wp_loop_rounds fuel ?_
          refine sym_rounds (F := fun n b1 => still_Cuts_l1 fore cut end' r2 n b1 = some lr1) (H := fun b1 => ⟨[(3, .v (.int .i64 fore)), (4, .v (.int .i64 cut)), (5, .v (.int .i64 end')), (18, .gr 0), (19, .v (.int .i64 b1.1)), (60, .sl 1003), (61, .v (.int .i64 ((r2.1.length : Nat) : Int))), (62, .v (.int .i64 b1.2.1))], ⟨[], ((1003, ⟨r2.1.length, 3, fun i => [.int .i64 ((r2.1.getD i default).amount), .int .i64 (((r2.1.getD i default).alcohol).lo), .int .i64 (((r2.1.getD i default).alcohol).hi)]⟩) :: (still_Cuts_R c amounts)), [(0, ⟨3, 1, b1.2.2.length, b1.2.2.flatMap (fun x => [.int .i64 x])⟩)]⟩⟩) (0, 0, ([] : List Int)) (fun b hb => by have hb : none = some lr1 := hb; cases hb) ?_ _ _ _ _ e3 (St.cast (P := Go.Proofs.Try.prog) [] [] [3, 4, 5, 18, 19, 60, 61, 62] [] [1003, 0, 1, 2] _ [] (by kernel_rfl) trivial S)
          clear e3 S
          intro n b1 E a w h ih S
          rw [still_Cuts_l1] at h
          refine sym_seq lay_ok mixed [] [3, 4, 5, 18, 19, 60, 61, 62, 63] [] (⟨[(3, .v (.int .i64 fore)), (4, .v (.int .i64 cut)), (5, .v (.int .i64 end')), (18, .gr 0), (19, .v (.int .i64 b1.1)), (60, .sl 1003), (61, .v (.int .i64 ((r2.1.length : Nat) : Int))), (62, .v (.int .i64 b1.2.1)), (63, .v (.bool (decide (b1.2.1 < ((r2.1.length : Nat) : Int)))))], ⟨[], ((1003, ⟨r2.1.length, 3, fun i => [.int .i64 ((r2.1.getD i default).amount), .int .i64 (((r2.1.getD i default).alcohol).lo), .int .i64 (((r2.1.getD i default).alcohol).hi)]⟩) :: (still_Cuts_R c amounts)), [(0, ⟨3, 1, b1.2.2.length, b1.2.2.flatMap (fun x => [.int .i64 x])⟩)]⟩⟩) [] S (by kernel_rfl) (by kernel_rfl) (by kernel_rfl) trivial ?_
          clear S; intro E a w S
          refine sym_if (b := decide (b1.2.1 < ((r2.1.length : Nat) : Int))) S rfl (fun hb4 => ?_) (fun hb4 => ?_)
          · have h := bif_t hb4 h
            refine wp_skip ?_
            refine out_then_normal ?_
            refine wp_seq ?_
            refine wp_block ?_
            obtain ⟨g1, h⟩ := grd_some h
            refine sym_seq lay_ok mixed [(2, { g := 7 })] [3, 4, 5, 18, 19, 60, 61, 62, 21] [7] (⟨[(3, .v (.int .i64 fore)), (4, .v (.int .i64 cut)), (5, .v (.int .i64 end')), (18, .gr 0), (19, .v (.int .i64 b1.1)), (60, .sl 1003), (61, .v (.int .i64 ((r2.1.length : Nat) : Int))), (62, .v (.int .i64 b1.2.1)), (21, .own 7 0)], ⟨[(7, .blk 36 [.v (.int .i64 ((r2.1.getD (Int.toNat b1.2.1) default).amount)), .v (.int .i64 (((r2.1.getD (Int.toNat b1.2.1) default).alcohol).lo)), .v (.int .i64 (((r2.1.getD (Int.toNat b1.2.1) default).alcohol).hi))])], ((1003, ⟨r2.1.length, 3, fun i => [.int .i64 ((r2.1.getD i default).amount), .int .i64 (((r2.1.getD i default).alcohol).lo), .int .i64 (((r2.1.getD i default).alcohol).hi)]⟩) :: (still_Cuts_R c amounts)), [(0, ⟨3, 1, b1.2.2.length, b1.2.2.flatMap (fun x => [.int .i64 x])⟩)]⟩⟩) [.idx b1.2.1 r2.1.length, .idx b1.2.1 r2.1.length] S (by kernel_rfl) (by kernel_rfl) (by kernel_rfl) ⟨g1, g1, trivial⟩ ?_
            clear S; intro E a w S
            obtain ⟨g2, h⟩ := grd_some h
            refine sym_seq lay_ok mixed [] [3, 4, 5, 18, 19, 60, 61, 62, 21] [7] (⟨[(3, .v (.int .i64 fore)), (4, .v (.int .i64 cut)), (5, .v (.int .i64 end')), (18, .gr 0), (19, .v (.int .i64 (b1.1 + ((r2.1.getD (Int.toNat b1.2.1) default).amount)))), (60, .sl 1003), (61, .v (.int .i64 ((r2.1.length : Nat) : Int))), (62, .v (.int .i64 b1.2.1)), (21, .own 7 0)], ⟨[(7, .blk 36 [.v (.int .i64 ((r2.1.getD (Int.toNat b1.2.1) default).amount)), .v (.int .i64 (((r2.1.getD (Int.toNat b1.2.1) default).alcohol).lo)), .v (.int .i64 (((r2.1.getD (Int.toNat b1.2.1) default).alcohol).hi))])], ((1003, ⟨r2.1.length, 3, fun i => [.int .i64 ((r2.1.getD i default).amount), .int .i64 (((r2.1.getD i default).alcohol).lo), .int .i64 (((r2.1.getD i default).alcohol).hi)]⟩) :: (still_Cuts_R c amounts)), [(0, ⟨3, 1, b1.2.2.length, b1.2.2.flatMap (fun x => [.int .i64 x])⟩)]⟩⟩) [.rng .i64 (b1.1 + ((r2.1.getD (Int.toNat b1.2.1) default).amount))] S (by kernel_rfl) (by kernel_rfl) (by kernel_rfl) ⟨rngI64 g2, trivial⟩ ?_
            clear S; intro E a w S
            refine sym_seq lay_ok mixed [] [3, 4, 5, 18, 19, 60, 61, 62, 21, 22] [7] (⟨[(3, .v (.int .i64 fore)), (4, .v (.int .i64 cut)), (5, .v (.int .i64 end')), (18, .gr 0), (19, .v (.int .i64 (b1.1 + ((r2.1.getD (Int.toNat b1.2.1) default).amount)))), (60, .sl 1003), (61, .v (.int .i64 ((r2.1.length : Nat) : Int))), (62, .v (.int .i64 b1.2.1)), (21, .own 7 0), (22, .v (.int .i64 1))], ⟨[(7, .blk 36 [.v (.int .i64 ((r2.1.getD (Int.toNat b1.2.1) default).amount)), .v (.int .i64 (((r2.1.getD (Int.toNat b1.2.1) default).alcohol).lo)), .v (.int .i64 (((r2.1.getD (Int.toNat b1.2.1) default).alcohol).hi))])], ((1003, ⟨r2.1.length, 3, fun i => [.int .i64 ((r2.1.getD i default).amount), .int .i64 (((r2.1.getD i default).alcohol).lo), .int .i64 (((r2.1.getD i default).alcohol).hi)]⟩) :: (still_Cuts_R c amounts)), [(0, ⟨3, 1, b1.2.2.length, b1.2.2.flatMap (fun x => [.int .i64 x])⟩)]⟩⟩) [] S (by kernel_rfl) (by kernel_rfl) (by kernel_rfl) trivial ?_
            clear S; intro E a w S
            refine wp_seq ?_
            refine sym_seq lay_ok mixed [] [3, 4, 5, 18, 19, 60, 61, 62, 21, 22, 72] [7] (⟨[(3, .v (.int .i64 fore)), (4, .v (.int .i64 cut)), (5, .v (.int .i64 end')), (18, .gr 0), (19, .v (.int .i64 (b1.1 + ((r2.1.getD (Int.toNat b1.2.1) default).amount)))), (60, .sl 1003), (61, .v (.int .i64 ((r2.1.length : Nat) : Int))), (62, .v (.int .i64 b1.2.1)), (21, .own 7 0), (22, .v (.int .i64 1)), (72, .v (.bool (decide (fore < (b1.1 + ((r2.1.getD (Int.toNat b1.2.1) default).amount))))))], ⟨[(7, .blk 36 [.v (.int .i64 ((r2.1.getD (Int.toNat b1.2.1) default).amount)), .v (.int .i64 (((r2.1.getD (Int.toNat b1.2.1) default).alcohol).lo)), .v (.int .i64 (((r2.1.getD (Int.toNat b1.2.1) default).alcohol).hi))])], ((1003, ⟨r2.1.length, 3, fun i => [.int .i64 ((r2.1.getD i default).amount), .int .i64 (((r2.1.getD i default).alcohol).lo), .int .i64 (((r2.1.getD i default).alcohol).hi)]⟩) :: (still_Cuts_R c amounts)), [(0, ⟨3, 1, b1.2.2.length, b1.2.2.flatMap (fun x => [.int .i64 x])⟩)]⟩⟩) [] S (by kernel_rfl) (by kernel_rfl) (by kernel_rfl) trivial ?_
            clear S; intro E a w S
            refine sym_if_last (b := decide (fore < (b1.1 + ((r2.1.getD (Int.toNat b1.2.1) default).amount)))) S rfl (fun hb5 => ?_) (fun hb5 => ?_)
            · have h := bif_t hb5 h
              obtain ⟨r3, e4, h⟩ := bind_some h
              obtain ⟨r4, e5, h⟩ := bind_some h
              refine sym_last lay_ok mixed [(4, { res := .agg [.v (.int .i64 r3.lo), .v (.int .i64 r3.hi)] }), (7, { res := .v (.int .i64 r4) })] [3, 4, 5, 18, 19, 60, 61, 62, 22] [] (⟨[(3, .v (.int .i64 fore)), (4, .v (.int .i64 cut)), (5, .v (.int .i64 end')), (18, .gr 0), (19, .v (.int .i64 (b1.1 + ((r2.1.getD (Int.toNat b1.2.1) default).amount)))), (60, .sl 1003), (61, .v (.int .i64 ((r2.1.length : Nat) : Int))), (62, .v (.int .i64 b1.2.1)), (22, .v (.int .i64 r4))], ⟨[], ((1003, ⟨r2.1.length, 3, fun i => [.int .i64 ((r2.1.getD i default).amount), .int .i64 (((r2.1.getD i default).alcohol).lo), .int .i64 (((r2.1.getD i default).alcohol).hi)]⟩) :: (still_Cuts_R c amounts)), [(0, ⟨3, 1, b1.2.2.length, b1.2.2.flatMap (fun x => [.int .i64 x])⟩)]⟩⟩) [.call ⟨[], ((1003, ⟨r2.1.length, 3, fun i => [.int .i64 ((r2.1.getD i default).amount), .int .i64 (((r2.1.getD i default).alcohol).lo), .int .i64 (((r2.1.getD i default).alcohol).hi)]⟩) :: (still_Cuts_R c amounts)), [(0, ⟨3, 1, b1.2.2.length, b1.2.2.flatMap (fun x => [.int .i64 x])⟩)]⟩ 56 [.agg [.v (.int .i64 (((r2.1.getD (Int.toNat b1.2.1) default).alcohol).lo)), .v (.int .i64 (((r2.1.getD (Int.toNat b1.2.1) default).alcohol).hi))], .v (.int .i64 ((r2.1.getD (Int.toNat b1.2.1) default).amount))] (.agg [.v (.int .i64 r3.lo), .v (.int .i64 r3.hi)]), .call ⟨[], ((1003, ⟨r2.1.length, 3, fun i => [.int .i64 ((r2.1.getD i default).amount), .int .i64 (((r2.1.getD i default).alcohol).lo), .int .i64 (((r2.1.getD i default).alcohol).hi)]⟩) :: (still_Cuts_R c amounts)), [(0, ⟨3, 1, b1.2.2.length, b1.2.2.flatMap (fun x => [.int .i64 x])⟩)]⟩ 55 [.agg [.v (.int .i64 r3.lo), .v (.int .i64 r3.hi)], .v (.int .i64 cut), .v (.int .i64 end')] (.v (.int .i64 r4))] S (by kernel_rfl) (by kernel_rfl) (by kernel_rfl) ⟨⟨enters_56, fun _ W _ _ => still_strength_ok (MSpan.mk (((r2.1.getD (Int.toNat b1.2.1) default).alcohol).lo) (((r2.1.getD (Int.toNat b1.2.1) default).alcohol).hi)) ((r2.1.getD (Int.toNat b1.2.1) default).amount) W r3 e4⟩, ⟨enters_55, fun _ W _ _ => still_kindsOf_ok r3 cut end' W r4 e5⟩, trivial⟩ ?_
              clear S; intro E a w S
              refine out_then_normal ?_
              obtain ⟨g3, h⟩ := grd_some h
              refine sym_open_last ?_
              refine sym_runP lay_ok [(2, { g := 8 })] 0 3 [3, 4, 5, 18, 19, 60, 61, 62, 81, 83] [8] (⟨[(3, .v (.int .i64 fore)), (4, .v (.int .i64 cut)), (5, .v (.int .i64 end')), (18, .gr 0), (19, .v (.int .i64 (b1.1 + ((r2.1.getD (Int.toNat b1.2.1) default).amount)))), (60, .sl 1003), (61, .v (.int .i64 ((r2.1.length : Nat) : Int))), (62, .v (.int .i64 b1.2.1)), (81, .gr 0), (83, .row 8 0 1 1)], ⟨[(8, .blk 3 [.v (.int .i64 r4)])], ((1003, ⟨r2.1.length, 3, fun i => [.int .i64 ((r2.1.getD i default).amount), .int .i64 (((r2.1.getD i default).alcohol).lo), .int .i64 (((r2.1.getD i default).alcohol).hi)]⟩) :: (still_Cuts_R c amounts)), [(0, ⟨3, 1, b1.2.2.length, b1.2.2.flatMap (fun x => [.int .i64 x])⟩)]⟩⟩) [] S (by kernel_rfl) (by kernel_rfl) trivial ?_
              clear S; intro E a w S
              refine sym_append lay_ok rfl (.tmp 81) (.tmp 83) 22 rfl rfl S 0 8 0 1 1 3 [.v (.int .i64 r4)] ⟨3, 1, b1.2.2.length, b1.2.2.flatMap (fun x => [.int .i64 x])⟩ ⟨.int .i64, 1, [.int .i64 0], false, 8⟩ ⟨.sli 3 1, 1, [.slice none 0 0], false, 24⟩ rfl rfl rfl rfl rfl rfl rfl rfl (show 0 < 1 by decide) rfl rfl (fun e he => by cases he; exact Nat.lt_of_succ_le (Nat.le_of_ble_eq_true rfl)) ⟨3, 1, (b1.2.2 ++ [r4]).length, (b1.2.2 ++ [r4]).flatMap (fun x => [.int .i64 x])⟩ rfl rfl (by simp) (fun E => by simp [SV.vals, SV.val]) (Nat.le_trans g3 (by decide)) (show (b1.2.2.length + 1) * 8 ≤ 140737488355328 by have := g3; omega) rfl ?_
              clear S; intro v0 E a w S; have S := St.pickG S [3, 4, 5, 19, 60, 61, 62, 83, 84] [8] [0] (⟨[(3, .v (.int .i64 fore)), (4, .v (.int .i64 cut)), (5, .v (.int .i64 end')), (19, .v (.int .i64 (b1.1 + ((r2.1.getD (Int.toNat b1.2.1) default).amount)))), (60, .sl 1003), (61, .v (.int .i64 ((r2.1.length : Nat) : Int))), (62, .v (.int .i64 b1.2.1)), (83, .row 8 0 1 1), (84, .gr 0)], ⟨[(8, .blk 3 [.v (.int .i64 r4)])], ((1003, ⟨r2.1.length, 3, fun i => [.int .i64 ((r2.1.getD i default).amount), .int .i64 (((r2.1.getD i default).alcohol).lo), .int .i64 (((r2.1.getD i default).alcohol).hi)]⟩) :: (still_Cuts_R c amounts)), [(0, ⟨3, 1, (b1.2.2 ++ [r4]).length, (b1.2.2 ++ [r4]).flatMap (fun x => [.int .i64 x])⟩)]⟩⟩) (by kernel_rfl)
              refine sym_runP lay_ok [] 4 1 [3, 4, 5, 19, 60, 61, 62, 18] [] (⟨[(3, .v (.int .i64 fore)), (4, .v (.int .i64 cut)), (5, .v (.int .i64 end')), (19, .v (.int .i64 (b1.1 + ((r2.1.getD (Int.toNat b1.2.1) default).amount)))), (60, .sl 1003), (61, .v (.int .i64 ((r2.1.length : Nat) : Int))), (62, .v (.int .i64 b1.2.1)), (18, .gr 0)], ⟨[], ((1003, ⟨r2.1.length, 3, fun i => [.int .i64 ((r2.1.getD i default).amount), .int .i64 (((r2.1.getD i default).alcohol).lo), .int .i64 (((r2.1.getD i default).alcohol).hi)]⟩) :: (still_Cuts_R c amounts)), [(0, ⟨3, 1, (b1.2.2 ++ [r4]).length, (b1.2.2 ++ [r4]).flatMap (fun x => [.int .i64 x])⟩)]⟩⟩) [] S (by kernel_rfl) (by kernel_rfl) trivial ?_
              clear S; intro E a w S
              refine sym_done rfl ?_
              have S := St.pickG S [3, 4, 5, 19, 60, 61, 62, 18] [] [0] (⟨[(3, .v (.int .i64 fore)), (4, .v (.int .i64 cut)), (5, .v (.int .i64 end')), (19, .v (.int .i64 (b1.1 + ((r2.1.getD (Int.toNat b1.2.1) default).amount)))), (60, .sl 1003), (61, .v (.int .i64 ((r2.1.length : Nat) : Int))), (62, .v (.int .i64 b1.2.1)), (18, .gr 0)], ⟨[], ((1003, ⟨r2.1.length, 3, fun i => [.int .i64 ((r2.1.getD i default).amount), .int .i64 (((r2.1.getD i default).alcohol).lo), .int .i64 (((r2.1.getD i default).alcohol).hi)]⟩) :: (still_Cuts_R c amounts)), [(0, ⟨3, 1, (b1.2.2 ++ [r4]).length, (b1.2.2 ++ [r4]).flatMap (fun x => [.int .i64 x])⟩)]⟩⟩) (by kernel_rfl)
              refine out_block_normal ?_
              refine out_then_normal ?_
              obtain ⟨g4, h⟩ := grd_some h
              refine sym_last lay_ok mixed [] [3, 4, 5, 19, 60, 61, 62, 18] [] (⟨[(3, .v (.int .i64 fore)), (4, .v (.int .i64 cut)), (5, .v (.int .i64 end')), (19, .v (.int .i64 (b1.1 + ((r2.1.getD (Int.toNat b1.2.1) default).amount)))), (60, .sl 1003), (61, .v (.int .i64 ((r2.1.length : Nat) : Int))), (62, .v (.int .i64 (b1.2.1 + 1))), (18, .gr 0)], ⟨[], ((1003, ⟨r2.1.length, 3, fun i => [.int .i64 ((r2.1.getD i default).amount), .int .i64 (((r2.1.getD i default).alcohol).lo), .int .i64 (((r2.1.getD i default).alcohol).hi)]⟩) :: (still_Cuts_R c amounts)), [(0, ⟨3, 1, (b1.2.2 ++ [r4]).length, (b1.2.2 ++ [r4]).flatMap (fun x => [.int .i64 x])⟩)]⟩⟩) [.rng .i64 (b1.2.1 + 1)] S (by kernel_rfl) (by kernel_rfl) (by kernel_rfl) ⟨rngI64 g4, trivial⟩ ?_
              clear S; intro E a w S
              refine out_then_normal ?_
              exact ih ((b1.1 + ((r2.1.getD (Int.toNat b1.2.1) default).amount)), (b1.2.1 + 1), (b1.2.2 ++ [r4])) _ _ _ h (St.cast (P := Go.Proofs.Try.prog) [] [] [3, 4, 5, 18, 19, 60, 61, 62] [] [1003, 0, 1, 2] _ [] (by kernel_rfl) trivial S)
            · have h := bif_f hb5 h
              refine wp_skip ?_
              refine out_then_normal ?_
              obtain ⟨g5, h⟩ := grd_some h
              refine sym_open_last ?_
              refine sym_runP lay_ok [(2, { g := 9 })] 0 3 [3, 4, 5, 18, 19, 60, 61, 62, 81, 83] [9] (⟨[(3, .v (.int .i64 fore)), (4, .v (.int .i64 cut)), (5, .v (.int .i64 end')), (18, .gr 0), (19, .v (.int .i64 (b1.1 + ((r2.1.getD (Int.toNat b1.2.1) default).amount)))), (60, .sl 1003), (61, .v (.int .i64 ((r2.1.length : Nat) : Int))), (62, .v (.int .i64 b1.2.1)), (81, .gr 0), (83, .row 9 0 1 1)], ⟨[(9, .blk 3 [.v (.int .i64 1)])], ((1003, ⟨r2.1.length, 3, fun i => [.int .i64 ((r2.1.getD i default).amount), .int .i64 (((r2.1.getD i default).alcohol).lo), .int .i64 (((r2.1.getD i default).alcohol).hi)]⟩) :: (still_Cuts_R c amounts)), [(0, ⟨3, 1, b1.2.2.length, b1.2.2.flatMap (fun x => [.int .i64 x])⟩)]⟩⟩) [] S (by kernel_rfl) (by kernel_rfl) trivial ?_
              clear S; intro E a w S
              refine sym_append lay_ok rfl (.tmp 81) (.tmp 83) 22 rfl rfl S 0 9 0 1 1 3 [.v (.int .i64 1)] ⟨3, 1, b1.2.2.length, b1.2.2.flatMap (fun x => [.int .i64 x])⟩ ⟨.int .i64, 1, [.int .i64 0], false, 8⟩ ⟨.sli 3 1, 1, [.slice none 0 0], false, 24⟩ rfl rfl rfl rfl rfl rfl rfl rfl (show 0 < 1 by decide) rfl rfl (fun e he => by cases he; exact Nat.lt_of_succ_le (Nat.le_of_ble_eq_true rfl)) ⟨3, 1, (b1.2.2 ++ [1]).length, (b1.2.2 ++ [1]).flatMap (fun x => [.int .i64 x])⟩ rfl rfl (by simp) (fun E => by simp [SV.vals, SV.val]) (Nat.le_trans g5 (by decide)) (show (b1.2.2.length + 1) * 8 ≤ 140737488355328 by have := g5; omega) rfl ?_
              clear S; intro v0 E a w S; have S := St.pickG S [3, 4, 5, 19, 60, 61, 62, 83, 84] [9] [0] (⟨[(3, .v (.int .i64 fore)), (4, .v (.int .i64 cut)), (5, .v (.int .i64 end')), (19, .v (.int .i64 (b1.1 + ((r2.1.getD (Int.toNat b1.2.1) default).amount)))), (60, .sl 1003), (61, .v (.int .i64 ((r2.1.length : Nat) : Int))), (62, .v (.int .i64 b1.2.1)), (83, .row 9 0 1 1), (84, .gr 0)], ⟨[(9, .blk 3 [.v (.int .i64 1)])], ((1003, ⟨r2.1.length, 3, fun i => [.int .i64 ((r2.1.getD i default).amount), .int .i64 (((r2.1.getD i default).alcohol).lo), .int .i64 (((r2.1.getD i default).alcohol).hi)]⟩) :: (still_Cuts_R c amounts)), [(0, ⟨3, 1, (b1.2.2 ++ [1]).length, (b1.2.2 ++ [1]).flatMap (fun x => [.int .i64 x])⟩)]⟩⟩) (by kernel_rfl)
              refine sym_runP lay_ok [] 4 1 [3, 4, 5, 19, 60, 61, 62, 18] [] (⟨[(3, .v (.int .i64 fore)), (4, .v (.int .i64 cut)), (5, .v (.int .i64 end')), (19, .v (.int .i64 (b1.1 + ((r2.1.getD (Int.toNat b1.2.1) default).amount)))), (60, .sl 1003), (61, .v (.int .i64 ((r2.1.length : Nat) : Int))), (62, .v (.int .i64 b1.2.1)), (18, .gr 0)], ⟨[], ((1003, ⟨r2.1.length, 3, fun i => [.int .i64 ((r2.1.getD i default).amount), .int .i64 (((r2.1.getD i default).alcohol).lo), .int .i64 (((r2.1.getD i default).alcohol).hi)]⟩) :: (still_Cuts_R c amounts)), [(0, ⟨3, 1, (b1.2.2 ++ [1]).length, (b1.2.2 ++ [1]).flatMap (fun x => [.int .i64 x])⟩)]⟩⟩) [] S (by kernel_rfl) (by kernel_rfl) trivial ?_
              clear S; intro E a w S
              refine sym_done rfl ?_
              have S := St.pickG S [3, 4, 5, 19, 60, 61, 62, 18] [] [0] (⟨[(3, .v (.int .i64 fore)), (4, .v (.int .i64 cut)), (5, .v (.int .i64 end')), (19, .v (.int .i64 (b1.1 + ((r2.1.getD (Int.toNat b1.2.1) default).amount)))), (60, .sl 1003), (61, .v (.int .i64 ((r2.1.length : Nat) : Int))), (62, .v (.int .i64 b1.2.1)), (18, .gr 0)], ⟨[], ((1003, ⟨r2.1.length, 3, fun i => [.int .i64 ((r2.1.getD i default).amount), .int .i64 (((r2.1.getD i default).alcohol).lo), .int .i64 (((r2.1.getD i default).alcohol).hi)]⟩) :: (still_Cuts_R c amounts)), [(0, ⟨3, 1, (b1.2.2 ++ [1]).length, (b1.2.2 ++ [1]).flatMap (fun x => [.int .i64 x])⟩)]⟩⟩) (by kernel_rfl)
              refine out_block_normal ?_
              refine out_then_normal ?_
              obtain ⟨g6, h⟩ := grd_some h
              refine sym_last lay_ok mixed [] [3, 4, 5, 19, 60, 61, 62, 18] [] (⟨[(3, .v (.int .i64 fore)), (4, .v (.int .i64 cut)), (5, .v (.int .i64 end')), (19, .v (.int .i64 (b1.1 + ((r2.1.getD (Int.toNat b1.2.1) default).amount)))), (60, .sl 1003), (61, .v (.int .i64 ((r2.1.length : Nat) : Int))), (62, .v (.int .i64 (b1.2.1 + 1))), (18, .gr 0)], ⟨[], ((1003, ⟨r2.1.length, 3, fun i => [.int .i64 ((r2.1.getD i default).amount), .int .i64 (((r2.1.getD i default).alcohol).lo), .int .i64 (((r2.1.getD i default).alcohol).hi)]⟩) :: (still_Cuts_R c amounts)), [(0, ⟨3, 1, (b1.2.2 ++ [1]).length, (b1.2.2 ++ [1]).flatMap (fun x => [.int .i64 x])⟩)]⟩⟩) [.rng .i64 (b1.2.1 + 1)] S (by kernel_rfl) (by kernel_rfl) (by kernel_rfl) ⟨rngI64 g6, trivial⟩ ?_
              clear S; intro E a w S
              refine out_then_normal ?_
              exact ih ((b1.1 + ((r2.1.getD (Int.toNat b1.2.1) default).amount)), (b1.2.1 + 1), (b1.2.2 ++ [1])) _ _ _ h (St.cast (P := Go.Proofs.Try.prog) [] [] [3, 4, 5, 18, 19, 60, 61, 62] [] [1003, 0, 1, 2] _ [] (by kernel_rfl) trivial S)
          · have h := bif_f hb4 h
            refine wp_exit ?_
            refine out_then_exit ?_
            refine out_then_exit ?_
            refine out_block_here ?_
            refine out_then_normal ?_
            have hr := Option.some.inj h
            subst hr
            exact ⟨_, b1.2.2, hp1, St.cast (P := Go.Proofs.Try.prog) [] [] [18] [] [1003, 0, 1, 2] _ [] (by kernel_rfl) trivial S⟩
        clear e3 S
        rintro a w ⟨E, x1, h, S⟩
        rw [still_Cuts_k1] at h
        refine out_then_normal ?_
        refine sym_seq lay_ok mixed [] [12, 13] [] (⟨[(12, .gr 0), (13, .v (.int .i64 0))], ⟨[], ((1003, ⟨r2.1.length, 3, fun i => [.int .i64 ((r2.1.getD i default).amount), .int .i64 (((r2.1.getD i default).alcohol).lo), .int .i64 (((r2.1.getD i default).alcohol).hi)]⟩) :: (still_Cuts_R c amounts)), [(0, ⟨3, 1, x1.length, x1.flatMap (fun x => [.int .i64 x])⟩)]⟩⟩) [] S (by kernel_rfl) (by kernel_rfl) (by kernel_rfl) trivial ?_
        clear S; intro E a w S
        refine wp_ret ?_
        have h := Option.some.inj h
        subst h
        exact sym_ret lay_ok [.gr 0, .v (.int .i64 0)] (by kernel_rfl) rfl S ⟨vfun [E.gr 0], rfl, S.below rfl, vfun_one [E.gr 0] ⟨(S.gr_one (k := 0) rfl), trivial⟩, (((S.mem.gr 0 _ rfl).slice (S.gr_new rfl (k := 0) rfl) 0 (vfun [E.gr 0]) rfl _ (flat_get (fun x => [.int .i64 x]) 1 (fun _ => rfl) x1)).and (HeldIn.true fun _ => trivial))⟩
def wormtubref04_Cuts_R (c : MCurve) (l : List Int) : List (Nat × Q) := [(0, ⟨c.liquid.length, 1, fun i => [.int .i64 (c.liquid.getD i default)]⟩), (1, ⟨c.vapour.length, 2, fun i => [.int .i64 ((c.vapour.getD i default).lo), .int .i64 ((c.vapour.getD i default).hi)]⟩), (2, ⟨l.length, 1, fun i => [.int .i64 (l.getD i default)]⟩)]
def wormtubref04_Cuts_k1  (x1 : List Int) : Option (List Int × Int) :=
some (x1, 0)
def wormtubref04_Cuts_l1 (l : List Int) (fore : Int) (cut : Int) (end' : Int) (r4 : (List MDrawn × MPot × Int)) : Nat → (Int × Int × List Int) → Option (Lp (List Int) (List Int × Int))
  | 0, _ => none
  | n + 1, b1 =>
    (bif decide (b1.2.1 < ((l.length : Nat) : Int)) then
    (grd (((0 : Int) ≤ b1.2.1 ∧ (b1.2.1 : Int) < ((l.length : Nat) : Int)) ∧ InI64 (b1.1 + (l.getD (Int.toNat b1.2.1) default))) <|
    grd (((0 : Int) ≤ b1.2.1 ∧ (b1.2.1 : Int) < ((r4.1.length : Nat) : Int))) <|
    (wormtubref04_strong (MSpan.mk (((r4.1.getD (Int.toNat b1.2.1) default).alcohol).lo) (((r4.1.getD (Int.toNat b1.2.1) default).alcohol).hi)) (l.getD (Int.toNat b1.2.1) default)).bind fun (r5 : MSpan) =>
    (bif decide (cut ≤ r5.hi) then
    (grd (InI64 (0 + 2)) <|
    some (0 + 2))
    else
    (some 0)).bind fun (j1 : Int) =>
    (bif (decide (r5.lo < cut) && decide (end' ≤ r5.hi)) then
    (grd (InI64 (j1 + 4)) <|
    some (j1 + 4))
    else
    (some j1)).bind fun (j2 : Int) =>
    (bif decide (r5.lo < end') then
    (grd (InI64 (j2 + 8)) <|
    some (j2 + 8))
    else
    (some j2)).bind fun (j3 : Int) =>
    (bif decide ((b1.1 + (l.getD (Int.toNat b1.2.1) default)) ≤ fore) then
    (grd ((b1.2.2.length + 1 ≤ 1000000)) <|
    grd (InI64 (b1.2.1 + 1)) <|
    wormtubref04_Cuts_l1 l fore cut end' r4 n ((b1.1 + (l.getD (Int.toNat b1.2.1) default)), (b1.2.1 + 1), (b1.2.2 ++ [1])))
    else
    (grd ((b1.2.2.length + 1 ≤ 1000000)) <|
    grd (InI64 (b1.2.1 + 1)) <|
    wormtubref04_Cuts_l1 l fore cut end' r4 n ((b1.1 + (l.getD (Int.toNat b1.2.1) default)), (b1.2.1 + 1), (b1.2.2 ++ [j3])))))
    else
    (some (Lp.done b1.2.2)))
def wormtubref04_Cuts (fuel : Nat) (c : MCurve) (p : MPot) (l : List Int) (fore : Int) (cut : Int) (end' : Int) : Option (List Int × Int) :=
(wormtubref04_early fuel c (MPot.mk p.volume (MSpan.mk p.alcohol.lo p.alcohol.hi)) l).bind fun (r1 : Int) =>
(bif (r1 != 0) then
(some ([], r1))
else
((wormtubref04_in fore 0 1073741824).bind fun (r2 : Bool) =>
((bif (!(!r2)) then wormtubref04_in end' 0 cut else some default)).bind fun (r3 : Bool) =>
(bif (((!r2) || (!r3)) || decide (10000 < cut)) then
(some ([], 2))
else
((wormtubref04_Run fuel c (MPot.mk p.volume (MSpan.mk p.alcohol.lo p.alcohol.hi)) l).bind fun (r4 : (List MDrawn × MPot × Int)) =>
(bif (r4.2.2 != 0) then
(some ([], r4.2.2))
else
((wormtubref04_Cuts_l1 l fore cut end' r4 fuel (0, 0, ([] : List Int))).bind fun lr1 => lr1.go fun x1 => wormtubref04_Cuts_k1 x1))))))
set_option maxRecDepth 100000 in
set_option maxHeartbeats 4000000 in
theorem wormtubref04_Cuts_ok (fuel : Nat) (c : MCurve) (p : MPot) (l : List Int) (fore : Int) (cut : Int) (end' : Int) (W : World) (A0 : Option Addr) (c0 : Nat) (h0 : c.liquid.length ≤ c0) (s0 : SlAt W A0 c.liquid.length 1 fun i => [.int .i64 (c.liquid.getD i default)]) (A1 : Option Addr) (c1 : Nat) (h1 : c.vapour.length ≤ c1) (s1 : SlAt W A1 c.vapour.length 2 fun i => [.int .i64 ((c.vapour.getD i default).lo), .int .i64 ((c.vapour.getD i default).hi)]) (A2 : Option Addr) (c2 : Nat) (h2 : l.length ≤ c2) (s2 : SlAt W A2 l.length 1 fun i => [.int .i64 (l.getD i default)]) (res : List Int × Int) (h : wormtubref04_Cuts fuel c p l fore cut end' = some res) :
    Calls Go.Proofs.Try.prog 28 #[.agg #[.slice A0 c.liquid.length c0, .slice A1 c.vapour.length c1], .agg #[.int .i64 p.volume, .int .i64 p.alcohol.lo, .int .i64 p.alcohol.hi], .slice A2 l.length c2, .int .i64 fore, .int .i64 cut, .int .i64 end'] W fun e w' => ∃ v : Nat → Value, e = .returned (.tuple #[v 0, .int .i64 res.2]) ∧ Below W.heap.size W w' ∧ (∀ i, (v i).oneCell' = true) ∧ HeldIn (fun k => W.heap.size ≤ k) w' (SlicesAre 0 [⟨res.1.length, 1, fun i => [.int .i64 (res.1.getD i default)]⟩] v) := by
  refine sym_call (f := 28) (fn := Go.Proofs.Try.f28) (c := Go.Proofs.Try.f28.body.get rfl) Go.Proofs.Try.func28 rfl [.agg [.sl 0, .sl 1], .agg [.v (.int .i64 p.volume), .v (.int .i64 p.alcohol.lo), .v (.int .i64 p.alcohol.hi)], .sl 2, .v (.int .i64 fore), .v (.int .i64 cut), .v (.int .i64 end')] (wormtubref04_Cuts_R c l) [] (envOf [(0, ⟨A0, c.liquid.length, c0, 1⟩), (1, ⟨A1, c.vapour.length, c1, 2⟩), (2, ⟨A2, l.length, c2, 1⟩)]) allR (fun _ _ => rfl) (by kernel_rfl) (envOf_one trivial) ⟨s0.rd h0, s1.rd h1, s2.rd h2, trivial⟩ (AllRR.all _ _) trivial fun E a w S => ?_
  rw [wormtubref04_Cuts] at h
  refine sym_seq lay_ok mixed [(0, { g := 0 }), (1, { g := 1 })] [2, 3, 4, 5, 6, 7] [0, 1] (⟨[(2, .sl 2), (3, .v (.int .i64 fore)), (4, .v (.int .i64 cut)), (5, .v (.int .i64 end')), (6, .own 0 0), (7, .own 1 0)], ⟨[(0, .blk 25 [.sl 0, .sl 1]), (1, .blk 29 [.v (.int .i64 p.volume), .v (.int .i64 p.alcohol.lo), .v (.int .i64 p.alcohol.hi)])], (wormtubref04_Cuts_R c l), []⟩⟩) [] S (by kernel_rfl) (by kernel_rfl) (by kernel_rfl) trivial ?_
  clear S; intro E a w S
  obtain ⟨r1, e1, h⟩ := bind_some h
  refine sym_seq lay_ok mixed [(3, { res := .v (.int .i64 r1) })] [2, 3, 4, 5, 6, 7, 14] [0, 1] (⟨[(2, .sl 2), (3, .v (.int .i64 fore)), (4, .v (.int .i64 cut)), (5, .v (.int .i64 end')), (6, .own 0 0), (7, .own 1 0), (14, .v (.int .i64 r1))], ⟨[(0, .blk 25 [.sl 0, .sl 1]), (1, .blk 29 [.v (.int .i64 p.volume), .v (.int .i64 p.alcohol.lo), .v (.int .i64 p.alcohol.hi)])], (wormtubref04_Cuts_R c l), []⟩⟩) [.call ⟨[], (wormtubref04_Cuts_R c l), []⟩ 57 [.agg [.sl 0, .sl 1], .agg [.v (.int .i64 p.volume), .v (.int .i64 p.alcohol.lo), .v (.int .i64 p.alcohol.hi)], .sl 2] (.v (.int .i64 r1))] S (by kernel_rfl) (by kernel_rfl) (by kernel_rfl) ⟨⟨enters_57, fun E W _ hm => by obtain ⟨A0, c0, q0, l0, s0, _⟩ := Mem.sl hm (s := 0) rfl; obtain ⟨A1, c1, q1, l1, s1, _⟩ := Mem.sl hm (s := 1) rfl; obtain ⟨A2, c2, q2, l2, s2, _⟩ := Mem.sl hm (s := 2) rfl; simp only [SV.vals, SV.val, q0, q1, q2]; exact wormtubref04_early_ok fuel c (MPot.mk p.volume (MSpan.mk p.alcohol.lo p.alcohol.hi)) l W A0 c0 l0 s0 A1 c1 l1 s1 A2 c2 l2 s2 r1 e1⟩, trivial⟩ ?_
  clear S; intro E a w S
  refine wp_seq ?_
  refine sym_seq lay_ok mixed [] [2, 3, 4, 5, 6, 7, 14, 27] [0, 1] (⟨[(2, .sl 2), (3, .v (.int .i64 fore)), (4, .v (.int .i64 cut)), (5, .v (.int .i64 end')), (6, .own 0 0), (7, .own 1 0), (14, .v (.int .i64 r1)), (27, .v (.bool (r1 != 0)))], ⟨[(0, .blk 25 [.sl 0, .sl 1]), (1, .blk 29 [.v (.int .i64 p.volume), .v (.int .i64 p.alcohol.lo), .v (.int .i64 p.alcohol.hi)])], (wormtubref04_Cuts_R c l), []⟩⟩) [] S (by kernel_rfl) (by kernel_rfl) (by kernel_rfl) trivial ?_
  clear S; intro E a w S
  refine sym_if_last (b := (r1 != 0)) S rfl (fun hb1 => ?_) (fun hb1 => ?_)
  · have h := bif_t hb1 h
    refine sym_seq lay_ok mixed [] [12, 13] [] (⟨[(12, .v (.slice none 0 0)), (13, .v (.int .i64 r1))], ⟨[], (wormtubref04_Cuts_R c l), []⟩⟩) [] S (by kernel_rfl) (by kernel_rfl) (by kernel_rfl) trivial ?_
    clear S; intro E a w S
    refine wp_ret ?_
    refine out_then_ret ?_
    have h := Option.some.inj h
    subst h
    exact sym_ret lay_ok [.v (.slice none 0 0), .v (.int .i64 r1)] (by kernel_rfl) rfl S ⟨vfun [.slice none 0 0], rfl, S.below rfl, vfun_one [.slice none 0 0] ⟨rfl, trivial⟩, ((HeldIn.true fun _ => ⟨_, _, rfl, Nat.le_refl _, SlAt.nil⟩).and (HeldIn.true fun _ => trivial))⟩
  · have h := bif_f hb1 h
    refine wp_skip ?_
    refine out_then_normal ?_
    refine wp_seq ?_
    obtain ⟨r2, e2, h⟩ := bind_some h
    obtain ⟨r3, e3, h⟩ := bind_some h
    refine sym_seq lay_ok mixed [(1, { res := .v (.bool r2) }), (4, { og := true }), (5, { og := true }), (6, { og := true, res := .v (.bool r3) }), (7, { og := true }), (8, { pk := true }), (10, { og := true }), (11, { og := true }), (12, { pk := true })] [2, 3, 4, 5, 6, 7, 41] [0, 1] (⟨[(2, .sl 2), (3, .v (.int .i64 fore)), (4, .v (.int .i64 cut)), (5, .v (.int .i64 end')), (6, .own 0 0), (7, .own 1 0), (41, .v (.bool (((!r2) || (!r3)) || decide (10000 < cut))))], ⟨[(0, .blk 25 [.sl 0, .sl 1]), (1, .blk 29 [.v (.int .i64 p.volume), .v (.int .i64 p.alcohol.lo), .v (.int .i64 p.alcohol.hi)])], (wormtubref04_Cuts_R c l), []⟩⟩) [.call ⟨[], (wormtubref04_Cuts_R c l), []⟩ 51 [.v (.int .i64 fore), .v (.int .i64 0), .v (.int .i64 1073741824)] (.v (.bool r2)), .imp (!(!r2)) (!(!r2)), .imp (!(!r2)) (!(!r2)), .when (!(!r2)) (.call ⟨[], (wormtubref04_Cuts_R c l), []⟩ 51 [.v (.int .i64 end'), .v (.int .i64 0), .v (.int .i64 cut)] (.v (.bool r3))), .imp (!(!r2)) (!(!r2)), .imp (!(!r2)) (!(!r2)), .imp (!((!r2) || (!r3))) (!((!r2) || (!r3))), .imp (!((!r2) || (!r3))) (!((!r2) || (!r3)))] S (by kernel_rfl) (by kernel_rfl) (by kernel_rfl) ⟨⟨enters_51, fun _ W _ _ => wormtubref04_in_ok fore 0 1073741824 W r2 e2⟩, fun h => h, fun h => h, fun hW => ⟨enters_51, fun _ W _ _ => wormtubref04_in_ok end' 0 cut W r3 (bif_t hW e3)⟩, fun h => h, fun h => h, fun h => h, fun h => h, trivial⟩ ?_
    clear S; intro E a w S
    refine sym_if_last (b := (((!r2) || (!r3)) || decide (10000 < cut))) S rfl (fun hb2 => ?_) (fun hb2 => ?_)
    · have h := bif_t hb2 h
      refine sym_seq lay_ok mixed [] [12, 13] [] (⟨[(12, .v (.slice none 0 0)), (13, .v (.int .i64 2))], ⟨[], (wormtubref04_Cuts_R c l), []⟩⟩) [] S (by kernel_rfl) (by kernel_rfl) (by kernel_rfl) trivial ?_
      clear S; intro E a w S
      refine wp_ret ?_
      refine out_then_ret ?_
      have h := Option.some.inj h
      subst h
      exact sym_ret lay_ok [.v (.slice none 0 0), .v (.int .i64 2)] (by kernel_rfl) rfl S ⟨vfun [.slice none 0 0], rfl, S.below rfl, vfun_one [.slice none 0 0] ⟨rfl, trivial⟩, ((HeldIn.true fun _ => ⟨_, _, rfl, Nat.le_refl _, SlAt.nil⟩).and (HeldIn.true fun _ => trivial))⟩
    · have h := bif_f hb2 h
      refine wp_skip ?_
      refine out_then_normal ?_
      obtain ⟨r4, e4, h⟩ := bind_some h
      refine sym_seq lay_ok mixed [(3, { g := 2, res := .tup [.ltr 2 0, .agg [.v (.int .i64 r4.2.1.volume), .v (.int .i64 r4.2.1.alcohol.lo), .v (.int .i64 r4.2.1.alcohol.hi)], .v (.int .i64 r4.2.2)], hx := some (SlicesAre 0 [⟨r4.1.length, 3, fun i => [.int .i64 ((r4.1.getD i default).amount), .int .i64 (((r4.1.getD i default).alcohol).lo), .int .i64 (((r4.1.getD i default).alcohol).hi)]⟩]) }), (8, { g := 3 })] [2, 3, 4, 5, 15, 14] [2] (⟨[(2, .sl 2), (3, .v (.int .i64 fore)), (4, .v (.int .i64 cut)), (5, .v (.int .i64 end')), (15, .ltr 2 0), (14, .v (.int .i64 r4.2.2))], ⟨[(2, .held (SlicesAre 0 [⟨r4.1.length, 3, fun i => [.int .i64 ((r4.1.getD i default).amount), .int .i64 (((r4.1.getD i default).alcohol).lo), .int .i64 (((r4.1.getD i default).alcohol).hi)]⟩]))], (wormtubref04_Cuts_R c l), []⟩⟩) [.callx ⟨[], (wormtubref04_Cuts_R c l), []⟩ 2 23 [.agg [.sl 0, .sl 1], .agg [.v (.int .i64 p.volume), .v (.int .i64 p.alcohol.lo), .v (.int .i64 p.alcohol.hi)], .sl 2] (.tup [.ltr 2 0, .agg [.v (.int .i64 r4.2.1.volume), .v (.int .i64 r4.2.1.alcohol.lo), .v (.int .i64 r4.2.1.alcohol.hi)], .v (.int .i64 r4.2.2)]) (SlicesAre 0 [⟨r4.1.length, 3, fun i => [.int .i64 ((r4.1.getD i default).amount), .int .i64 (((r4.1.getD i default).alcohol).lo), .int .i64 (((r4.1.getD i default).alcohol).hi)]⟩])] S (by kernel_rfl) (by kernel_rfl) (by kernel_rfl) ⟨⟨enters_23, fun E W _ hm => by obtain ⟨A0, c0, q0, l0, s0, _⟩ := Mem.sl hm (s := 0) rfl; obtain ⟨A1, c1, q1, l1, s1, _⟩ := Mem.sl hm (s := 1) rfl; obtain ⟨A2, c2, q2, l2, s2, _⟩ := Mem.sl hm (s := 2) rfl; simp only [SV.vals, SV.val, q0, q1, q2]; exact ((wormtubref04_Run_ok fuel c (MPot.mk p.volume (MSpan.mk p.alcohol.lo p.alcohol.hi)) l W A0 c0 l0 s0 A1 c1 l1 s1 A2 c2 l2 s2 r4 e4).mono fun e w' hx => by obtain ⟨v, h1, h2, h3, h4⟩ := hx; exact ⟨v, h1, h2, h3, h4.mono fun _ _ h => .inl h⟩)⟩, trivial⟩ ?_
      clear S; intro E a w S
      obtain ⟨E, S⟩ := St.read 2 0 1003 ⟨r4.1.length, 3, fun i => [.int .i64 ((r4.1.getD i default).amount), .int .i64 (((r4.1.getD i default).alcohol).lo), .int .i64 (((r4.1.getD i default).alcohol).hi)]⟩ (⟨[(2, .sl 2), (3, .v (.int .i64 fore)), (4, .v (.int .i64 cut)), (5, .v (.int .i64 end')), (15, .sl 1003), (14, .v (.int .i64 r4.2.2))], ⟨[(2, .held (SlicesAre 0 [⟨r4.1.length, 3, fun i => [.int .i64 ((r4.1.getD i default).amount), .int .i64 (((r4.1.getD i default).alcohol).lo), .int .i64 (((r4.1.getD i default).alcohol).hi)]⟩]))], ((1003, ⟨r4.1.length, 3, fun i => [.int .i64 ((r4.1.getD i default).amount), .int .i64 (((r4.1.getD i default).alcohol).lo), .int .i64 (((r4.1.getD i default).alcohol).hi)]⟩) :: (wormtubref04_Cuts_R c l)), []⟩⟩) rfl (fun v w h => h.1) (by intro _ h; cases h) (by kernel_rfl) (by kernel_rfl) S
      refine wp_seq ?_
      refine sym_seq lay_ok mixed [] [2, 3, 4, 5, 15, 14, 51] [] (⟨[(2, .sl 2), (3, .v (.int .i64 fore)), (4, .v (.int .i64 cut)), (5, .v (.int .i64 end')), (15, .sl 1003), (14, .v (.int .i64 r4.2.2)), (51, .v (.bool (r4.2.2 != 0)))], ⟨[], ((1003, ⟨r4.1.length, 3, fun i => [.int .i64 ((r4.1.getD i default).amount), .int .i64 (((r4.1.getD i default).alcohol).lo), .int .i64 (((r4.1.getD i default).alcohol).hi)]⟩) :: (wormtubref04_Cuts_R c l)), []⟩⟩) [] S (by kernel_rfl) (by kernel_rfl) (by kernel_rfl) trivial ?_
      clear S; intro E a w S
      refine sym_if_last (b := (r4.2.2 != 0)) S rfl (fun hb3 => ?_) (fun hb3 => ?_)
      · have h := bif_t hb3 h
        refine sym_seq lay_ok mixed [] [12, 13] [] (⟨[(12, .v (.slice none 0 0)), (13, .v (.int .i64 r4.2.2))], ⟨[], ((1003, ⟨r4.1.length, 3, fun i => [.int .i64 ((r4.1.getD i default).amount), .int .i64 (((r4.1.getD i default).alcohol).lo), .int .i64 (((r4.1.getD i default).alcohol).hi)]⟩) :: (wormtubref04_Cuts_R c l)), []⟩⟩) [] S (by kernel_rfl) (by kernel_rfl) (by kernel_rfl) trivial ?_
        clear S; intro E a w S
        refine wp_ret ?_
        refine out_then_ret ?_
        have h := Option.some.inj h
        subst h
        exact sym_ret lay_ok [.v (.slice none 0 0), .v (.int .i64 r4.2.2)] (by kernel_rfl) rfl S ⟨vfun [.slice none 0 0], rfl, S.below rfl, vfun_one [.slice none 0 0] ⟨rfl, trivial⟩, ((HeldIn.true fun _ => ⟨_, _, rfl, Nat.le_refl _, SlAt.nil⟩).and (HeldIn.true fun _ => trivial))⟩
      · have h := bif_f hb3 h
        refine wp_skip ?_
        refine out_then_normal ?_
        refine sym_seq lay_ok mixed [] [2, 3, 4, 5, 15, 17] [] (⟨[(2, .sl 2), (3, .v (.int .i64 fore)), (4, .v (.int .i64 cut)), (5, .v (.int .i64 end')), (15, .sl 1003), (17, .v (.slice none 0 0))], ⟨[], ((1003, ⟨r4.1.length, 3, fun i => [.int .i64 ((r4.1.getD i default).amount), .int .i64 (((r4.1.getD i default).alcohol).lo), .int .i64 (((r4.1.getD i default).alcohol).hi)]⟩) :: (wormtubref04_Cuts_R c l)), []⟩⟩) [] S (by kernel_rfl) (by kernel_rfl) (by kernel_rfl) trivial ?_
        clear S; intro E a w S
        refine sym_seq lay_ok mixed [] [2, 3, 4, 5, 15, 17, 18] [] (⟨[(2, .sl 2), (3, .v (.int .i64 fore)), (4, .v (.int .i64 cut)), (5, .v (.int .i64 end')), (15, .sl 1003), (17, .v (.slice none 0 0)), (18, .v (.int .i64 0))], ⟨[], ((1003, ⟨r4.1.length, 3, fun i => [.int .i64 ((r4.1.getD i default).amount), .int .i64 (((r4.1.getD i default).alcohol).lo), .int .i64 (((r4.1.getD i default).alcohol).hi)]⟩) :: (wormtubref04_Cuts_R c l)), []⟩⟩) [] S (by kernel_rfl) (by kernel_rfl) (by kernel_rfl) trivial ?_
        clear S; intro E a w S
        refine wp_seq ?_
        refine sym_seq lay_ok mixed [] [2, 3, 4, 5, 15, 17, 18, 19] [] (⟨[(2, .sl 2), (3, .v (.int .i64 fore)), (4, .v (.int .i64 cut)), (5, .v (.int .i64 end')), (15, .sl 1003), (17, .v (.slice none 0 0)), (18, .v (.int .i64 0)), (19, .v (.int .i64 0))], ⟨[], ((1003, ⟨r4.1.length, 3, fun i => [.int .i64 ((r4.1.getD i default).amount), .int .i64 (((r4.1.getD i default).alcohol).lo), .int .i64 (((r4.1.getD i default).alcohol).hi)]⟩) :: (wormtubref04_Cuts_R c l)), []⟩⟩) [] S (by kernel_rfl) (by kernel_rfl) (by kernel_rfl) trivial ?_
        clear S; intro E a w S
        have S := S.nilgr 0 3 1
        have S := S.reslot (t := 17) (sv' := .gr 0) rfl (by simp [SV.val, SV.subG, Env.updG_same])
        obtain ⟨E, S⟩ : ∃ E, St ⟨W, noC, Go.Proofs.Try.f28.ntmps, [], allR, noρ, (envOf [(0, ⟨A0, c.liquid.length, c0, 1⟩), (1, ⟨A1, c.vapour.length, c1, 2⟩), (2, ⟨A2, l.length, c2, 1⟩)]).sl, (envOf [(0, ⟨A0, c.liquid.length, c0, 1⟩), (1, ⟨A1, c.vapour.length, c1, 2⟩), (2, ⟨A2, l.length, c2, 1⟩)]).x⟩ (⟨[(2, .sl 2), (3, .v (.int .i64 fore)), (4, .v (.int .i64 cut)), (5, .v (.int .i64 end')), (15, .sl 1003), (17, .gr 0), (18, .v (.int .i64 0)), (19, .v (.int .i64 0))], ⟨[], ((1003, ⟨r4.1.length, 3, fun i => [.int .i64 ((r4.1.getD i default).amount), .int .i64 (((r4.1.getD i default).alcohol).lo), .int .i64 (((r4.1.getD i default).alcohol).hi)]⟩) :: (wormtubref04_Cuts_R c l)), [(0, ⟨3, 1, ([] : List Int).length, ([] : List Int).flatMap (fun x => [.int .i64 x])⟩)]⟩⟩) E a w := ⟨_, St.pickG S [2, 3, 4, 5, 15, 17, 18, 19] [] [0] (⟨[(2, .sl 2), (3, .v (.int .i64 fore)), (4, .v (.int .i64 cut)), (5, .v (.int .i64 end')), (15, .sl 1003), (17, .gr 0), (18, .v (.int .i64 0)), (19, .v (.int .i64 0))], ⟨[], ((1003, ⟨r4.1.length, 3, fun i => [.int .i64 ((r4.1.getD i default).amount), .int .i64 (((r4.1.getD i default).alcohol).lo), .int .i64 (((r4.1.getD i default).alcohol).hi)]⟩) :: (wormtubref04_Cuts_R c l)), [(0, ⟨3, 1, ([] : List Int).length, ([] : List Int).flatMap (fun x => [.int .i64 x])⟩)]⟩⟩) (by kernel_rfl)⟩
        obtain ⟨lr1, e5, hp1⟩ := bind_some h
        clear h
        refine sym_block_last (G := fun a w => ∃ E, ∃ x1 : List Int, wormtubref04_Cuts_k1 x1 = some res ∧ St ⟨W, noC, Go.Proofs.Try.f28.ntmps, [], allR, noρ, (envOf [(0, ⟨A0, c.liquid.length, c0, 1⟩), (1, ⟨A1, c.vapour.length, c1, 2⟩), (2, ⟨A2, l.length, c2, 1⟩)]).sl, (envOf [(0, ⟨A0, c.liquid.length, c0, 1⟩), (1, ⟨A1, c.vapour.length, c1, 2⟩), (2, ⟨A2, l.length, c2, 1⟩)]).x⟩ (⟨[(17, .gr 0)], ⟨[], ((1003, ⟨r4.1.length, 3, fun i => [.int .i64 ((r4.1.getD i default).amount), .int .i64 (((r4.1.getD i default).alcohol).lo), .int .i64 (((r4.1.getD i default).alcohol).hi)]⟩) :: (wormtubref04_Cuts_R c l)), [(0, ⟨3, 1, x1.length, x1.flatMap (fun x => [.int .i64 x])⟩)]⟩⟩) E a w) ?_ ?_
        · refine wp_loop_rounds fuel ?_
          refine sym_rounds (F := fun n b1 => wormtubref04_Cuts_l1 l fore cut end' r4 n b1 = some lr1) (H := fun b1 => ⟨[(2, .sl 2), (3, .v (.int .i64 fore)), (4, .v (.int .i64 cut)), (5, .v (.int .i64 end')), (15, .sl 1003), (17, .gr 0), (18, .v (.int .i64 b1.1)), (19, .v (.int .i64 b1.2.1))], ⟨[], ((1003, ⟨r4.1.length, 3, fun i => [.int .i64 ((r4.1.getD i default).amount), .int .i64 (((r4.1.getD i default).alcohol).lo), .int .i64 (((r4.1.getD i default).alcohol).hi)]⟩) :: (wormtubref04_Cuts_R c l)), [(0, ⟨3, 1, b1.2.2.length, b1.2.2.flatMap (fun x => [.int .i64 x])⟩)]⟩⟩) (0, 0, ([] : List Int)) (fun b hb => by have hb : none = some lr1 := hb; cases hb) ?_ _ _ _ _ e5 (St.cast (P := Go.Proofs.Try.prog) [] [] [2, 3, 4, 5, 15, 17, 18, 19] [] [1003, 0, 1, 2] _ [] (by kernel_rfl) trivial S)
          clear e5 S
          intro n b1 E a w h ih S
          rw [wormtubref04_Cuts_l1] at h
          refine wp_seq ?_
          refine sym_seq lay_ok mixed [] [2, 3, 4, 5, 15, 17, 18, 19, 56] [] (⟨[(2, .sl 2), (3, .v (.int .i64 fore)), (4, .v (.int .i64 cut)), (5, .v (.int .i64 end')), (15, .sl 1003), (17, .gr 0), (18, .v (.int .i64 b1.1)), (19, .v (.int .i64 b1.2.1)), (56, .v (.bool (decide (b1.2.1 < ((l.length : Nat) : Int)))))], ⟨[], ((1003, ⟨r4.1.length, 3, fun i => [.int .i64 ((r4.1.getD i default).amount), .int .i64 (((r4.1.getD i default).alcohol).lo), .int .i64 (((r4.1.getD i default).alcohol).hi)]⟩) :: (wormtubref04_Cuts_R c l)), [(0, ⟨3, 1, b1.2.2.length, b1.2.2.flatMap (fun x => [.int .i64 x])⟩)]⟩⟩) [] S (by kernel_rfl) (by kernel_rfl) (by kernel_rfl) trivial ?_
          clear S; intro E a w S
          refine sym_if_last (b := decide (b1.2.1 < ((l.length : Nat) : Int))) S rfl (fun hb4 => ?_) (fun hb4 => ?_)
          · have h := bif_t hb4 h
            refine wp_skip ?_
            refine out_then_normal ?_
            refine wp_seq ?_
            refine wp_block ?_
            obtain ⟨⟨g1, g2⟩, h⟩ := grd_some h
            refine sym_seq lay_ok mixed [] [2, 3, 4, 5, 15, 17, 18, 19] [] (⟨[(2, .sl 2), (3, .v (.int .i64 fore)), (4, .v (.int .i64 cut)), (5, .v (.int .i64 end')), (15, .sl 1003), (17, .gr 0), (18, .v (.int .i64 (b1.1 + (l.getD (Int.toNat b1.2.1) default)))), (19, .v (.int .i64 b1.2.1))], ⟨[], ((1003, ⟨r4.1.length, 3, fun i => [.int .i64 ((r4.1.getD i default).amount), .int .i64 (((r4.1.getD i default).alcohol).lo), .int .i64 (((r4.1.getD i default).alcohol).hi)]⟩) :: (wormtubref04_Cuts_R c l)), [(0, ⟨3, 1, b1.2.2.length, b1.2.2.flatMap (fun x => [.int .i64 x])⟩)]⟩⟩) [.idx b1.2.1 l.length, .idx b1.2.1 l.length, .rng .i64 (b1.1 + (l.getD (Int.toNat b1.2.1) default))] S (by kernel_rfl) (by kernel_rfl) (by kernel_rfl) ⟨g1, g1, rngI64 g2, trivial⟩ ?_
            clear S; intro E a w S
            obtain ⟨g3, h⟩ := grd_some h
            obtain ⟨r5, e6, h⟩ := bind_some h
            refine sym_seq lay_ok mixed [(9, { res := .agg [.v (.int .i64 r5.lo), .v (.int .i64 r5.hi)] }), (10, { g := 7 })] [2, 3, 4, 5, 15, 17, 18, 19, 20] [7] (⟨[(2, .sl 2), (3, .v (.int .i64 fore)), (4, .v (.int .i64 cut)), (5, .v (.int .i64 end')), (15, .sl 1003), (17, .gr 0), (18, .v (.int .i64 (b1.1 + (l.getD (Int.toNat b1.2.1) default)))), (19, .v (.int .i64 b1.2.1)), (20, .own 7 0)], ⟨[(7, .blk 27 [.v (.int .i64 r5.lo), .v (.int .i64 r5.hi)])], ((1003, ⟨r4.1.length, 3, fun i => [.int .i64 ((r4.1.getD i default).amount), .int .i64 (((r4.1.getD i default).alcohol).lo), .int .i64 (((r4.1.getD i default).alcohol).hi)]⟩) :: (wormtubref04_Cuts_R c l)), [(0, ⟨3, 1, b1.2.2.length, b1.2.2.flatMap (fun x => [.int .i64 x])⟩)]⟩⟩) [.idx b1.2.1 r4.1.length, .idx b1.2.1 r4.1.length, .idx b1.2.1 r4.1.length, .idx b1.2.1 l.length, .idx b1.2.1 l.length, .call ⟨[], ((1003, ⟨r4.1.length, 3, fun i => [.int .i64 ((r4.1.getD i default).amount), .int .i64 (((r4.1.getD i default).alcohol).lo), .int .i64 (((r4.1.getD i default).alcohol).hi)]⟩) :: (wormtubref04_Cuts_R c l)), [(0, ⟨3, 1, b1.2.2.length, b1.2.2.flatMap (fun x => [.int .i64 x])⟩)]⟩ 58 [.agg [.v (.int .i64 (((r4.1.getD (Int.toNat b1.2.1) default).alcohol).lo)), .v (.int .i64 (((r4.1.getD (Int.toNat b1.2.1) default).alcohol).hi))], .v (.int .i64 (l.getD (Int.toNat b1.2.1) default))] (.agg [.v (.int .i64 r5.lo), .v (.int .i64 r5.hi)])] S (by kernel_rfl) (by kernel_rfl) (by kernel_rfl) ⟨g3, g3, g3, g1, g1, ⟨enters_58, fun _ W _ _ => wormtubref04_strong_ok (MSpan.mk (((r4.1.getD (Int.toNat b1.2.1) default).alcohol).lo) (((r4.1.getD (Int.toNat b1.2.1) default).alcohol).hi)) (l.getD (Int.toNat b1.2.1) default) W r5 e6⟩, trivial⟩ ?_
            clear S; intro E a w S
            refine sym_seq lay_ok mixed [] [2, 3, 4, 5, 15, 17, 18, 19, 20, 21] [7] (⟨[(2, .sl 2), (3, .v (.int .i64 fore)), (4, .v (.int .i64 cut)), (5, .v (.int .i64 end')), (15, .sl 1003), (17, .gr 0), (18, .v (.int .i64 (b1.1 + (l.getD (Int.toNat b1.2.1) default)))), (19, .v (.int .i64 b1.2.1)), (20, .own 7 0), (21, .v (.int .i64 0))], ⟨[(7, .blk 27 [.v (.int .i64 r5.lo), .v (.int .i64 r5.hi)])], ((1003, ⟨r4.1.length, 3, fun i => [.int .i64 ((r4.1.getD i default).amount), .int .i64 (((r4.1.getD i default).alcohol).lo), .int .i64 (((r4.1.getD i default).alcohol).hi)]⟩) :: (wormtubref04_Cuts_R c l)), [(0, ⟨3, 1, b1.2.2.length, b1.2.2.flatMap (fun x => [.int .i64 x])⟩)]⟩⟩) [] S (by kernel_rfl) (by kernel_rfl) (by kernel_rfl) trivial ?_
            clear S; intro E a w S
            refine wp_seq ?_
            refine sym_seq lay_ok mixed [] [2, 3, 4, 5, 15, 17, 18, 19, 20, 21, 78] [7] (⟨[(2, .sl 2), (3, .v (.int .i64 fore)), (4, .v (.int .i64 cut)), (5, .v (.int .i64 end')), (15, .sl 1003), (17, .gr 0), (18, .v (.int .i64 (b1.1 + (l.getD (Int.toNat b1.2.1) default)))), (19, .v (.int .i64 b1.2.1)), (20, .own 7 0), (21, .v (.int .i64 0)), (78, .v (.bool (decide (cut ≤ r5.hi))))], ⟨[(7, .blk 27 [.v (.int .i64 r5.lo), .v (.int .i64 r5.hi)])], ((1003, ⟨r4.1.length, 3, fun i => [.int .i64 ((r4.1.getD i default).amount), .int .i64 (((r4.1.getD i default).alcohol).lo), .int .i64 (((r4.1.getD i default).alcohol).hi)]⟩) :: (wormtubref04_Cuts_R c l)), [(0, ⟨3, 1, b1.2.2.length, b1.2.2.flatMap (fun x => [.int .i64 x])⟩)]⟩⟩) [] S (by kernel_rfl) (by kernel_rfl) (by kernel_rfl) trivial ?_
            clear S; intro E a w S
            obtain ⟨j1, e9, h⟩ := bind_some h
            refine sym_meet_last (b := decide (cut ≤ r5.hi)) (⟨[(2, .sl 2), (3, .v (.int .i64 fore)), (4, .v (.int .i64 cut)), (5, .v (.int .i64 end')), (15, .sl 1003), (17, .gr 0), (18, .v (.int .i64 (b1.1 + (l.getD (Int.toNat b1.2.1) default)))), (19, .v (.int .i64 b1.2.1)), (20, .own 7 0), (21, .v (.int .i64 j1))], ⟨[(7, .blk 27 [.v (.int .i64 r5.lo), .v (.int .i64 r5.hi)])], ((1003, ⟨r4.1.length, 3, fun i => [.int .i64 ((r4.1.getD i default).amount), .int .i64 (((r4.1.getD i default).alcohol).lo), .int .i64 (((r4.1.getD i default).alcohol).hi)]⟩) :: (wormtubref04_Cuts_R c l)), [(0, ⟨3, 1, b1.2.2.length, b1.2.2.flatMap (fun x => [.int .i64 x])⟩)]⟩⟩) S rfl (fun hb5 => ?_) (fun hb5 => ?_) ?_
            · clear h; have h := bif_t hb5 e9
              obtain ⟨g4, h⟩ := grd_some h
              refine sym_last lay_ok mixed [] [2, 3, 4, 5, 15, 17, 18, 19, 20, 21] [7] (⟨[(2, .sl 2), (3, .v (.int .i64 fore)), (4, .v (.int .i64 cut)), (5, .v (.int .i64 end')), (15, .sl 1003), (17, .gr 0), (18, .v (.int .i64 (b1.1 + (l.getD (Int.toNat b1.2.1) default)))), (19, .v (.int .i64 b1.2.1)), (20, .own 7 0), (21, .v (.int .i64 (0 + 2)))], ⟨[(7, .blk 27 [.v (.int .i64 r5.lo), .v (.int .i64 r5.hi)])], ((1003, ⟨r4.1.length, 3, fun i => [.int .i64 ((r4.1.getD i default).amount), .int .i64 (((r4.1.getD i default).alcohol).lo), .int .i64 (((r4.1.getD i default).alcohol).hi)]⟩) :: (wormtubref04_Cuts_R c l)), [(0, ⟨3, 1, b1.2.2.length, b1.2.2.flatMap (fun x => [.int .i64 x])⟩)]⟩⟩) [.rng .i64 (0 + 2)] S (by kernel_rfl) (by kernel_rfl) (by kernel_rfl) ⟨rngI64 g4, trivial⟩ ?_
              clear S; intro E a w S
              have hj := Option.some.inj h
              subst hj
              refine out_then_normal ?_
              exact ⟨_, St.cast (P := Go.Proofs.Try.prog) [] [] [2, 3, 4, 5, 15, 17, 18, 19, 20, 21] [7] [1003, 0, 1, 2] _ [] (by kernel_rfl) trivial S⟩
            · clear h; have h := bif_f hb5 e9
              refine wp_skip ?_
              have hj := Option.some.inj h
              subst hj
              refine out_then_normal ?_
              exact ⟨_, St.cast (P := Go.Proofs.Try.prog) [] [] [2, 3, 4, 5, 15, 17, 18, 19, 20, 21] [7] [1003, 0, 1, 2] _ [] (by kernel_rfl) trivial S⟩
            clear S; intro E a w S
            refine out_then_normal ?_
            refine wp_seq ?_
            refine sym_seq lay_ok mixed [(5, { og := true }), (6, { og := true }), (7, { og := true }), (8, { og := true }), (9, { pk := true })] [2, 3, 4, 5, 15, 17, 18, 19, 20, 21, 90] [7] (⟨[(2, .sl 2), (3, .v (.int .i64 fore)), (4, .v (.int .i64 cut)), (5, .v (.int .i64 end')), (15, .sl 1003), (17, .gr 0), (18, .v (.int .i64 (b1.1 + (l.getD (Int.toNat b1.2.1) default)))), (19, .v (.int .i64 b1.2.1)), (20, .own 7 0), (21, .v (.int .i64 j1)), (90, .v (.bool (decide (r5.lo < cut) && decide (end' ≤ r5.hi))))], ⟨[(7, .blk 27 [.v (.int .i64 r5.lo), .v (.int .i64 r5.hi)])], ((1003, ⟨r4.1.length, 3, fun i => [.int .i64 ((r4.1.getD i default).amount), .int .i64 (((r4.1.getD i default).alcohol).lo), .int .i64 (((r4.1.getD i default).alcohol).hi)]⟩) :: (wormtubref04_Cuts_R c l)), [(0, ⟨3, 1, b1.2.2.length, b1.2.2.flatMap (fun x => [.int .i64 x])⟩)]⟩⟩) [.imp (decide (r5.lo < cut)) (decide (r5.lo < cut)), .imp (decide (r5.lo < cut)) (decide (r5.lo < cut)), .imp (decide (r5.lo < cut)) (decide (r5.lo < cut)), .imp (decide (r5.lo < cut)) (decide (r5.lo < cut))] S (by kernel_rfl) (by kernel_rfl) (by kernel_rfl) ⟨fun h => h, fun h => h, fun h => h, fun h => h, trivial⟩ ?_
            clear S; intro E a w S
            obtain ⟨j2, e8, h⟩ := bind_some h
            refine sym_meet_last (b := (decide (r5.lo < cut) && decide (end' ≤ r5.hi))) (⟨[(2, .sl 2), (3, .v (.int .i64 fore)), (4, .v (.int .i64 cut)), (5, .v (.int .i64 end')), (15, .sl 1003), (17, .gr 0), (18, .v (.int .i64 (b1.1 + (l.getD (Int.toNat b1.2.1) default)))), (19, .v (.int .i64 b1.2.1)), (20, .own 7 0), (21, .v (.int .i64 j2))], ⟨[(7, .blk 27 [.v (.int .i64 r5.lo), .v (.int .i64 r5.hi)])], ((1003, ⟨r4.1.length, 3, fun i => [.int .i64 ((r4.1.getD i default).amount), .int .i64 (((r4.1.getD i default).alcohol).lo), .int .i64 (((r4.1.getD i default).alcohol).hi)]⟩) :: (wormtubref04_Cuts_R c l)), [(0, ⟨3, 1, b1.2.2.length, b1.2.2.flatMap (fun x => [.int .i64 x])⟩)]⟩⟩) S rfl (fun hb6 => ?_) (fun hb6 => ?_) ?_
            · clear h; have h := bif_t hb6 e8
              obtain ⟨g5, h⟩ := grd_some h
              refine sym_last lay_ok mixed [] [2, 3, 4, 5, 15, 17, 18, 19, 20, 21] [7] (⟨[(2, .sl 2), (3, .v (.int .i64 fore)), (4, .v (.int .i64 cut)), (5, .v (.int .i64 end')), (15, .sl 1003), (17, .gr 0), (18, .v (.int .i64 (b1.1 + (l.getD (Int.toNat b1.2.1) default)))), (19, .v (.int .i64 b1.2.1)), (20, .own 7 0), (21, .v (.int .i64 (j1 + 4)))], ⟨[(7, .blk 27 [.v (.int .i64 r5.lo), .v (.int .i64 r5.hi)])], ((1003, ⟨r4.1.length, 3, fun i => [.int .i64 ((r4.1.getD i default).amount), .int .i64 (((r4.1.getD i default).alcohol).lo), .int .i64 (((r4.1.getD i default).alcohol).hi)]⟩) :: (wormtubref04_Cuts_R c l)), [(0, ⟨3, 1, b1.2.2.length, b1.2.2.flatMap (fun x => [.int .i64 x])⟩)]⟩⟩) [.rng .i64 (j1 + 4)] S (by kernel_rfl) (by kernel_rfl) (by kernel_rfl) ⟨rngI64 g5, trivial⟩ ?_
              clear S; intro E a w S
              have hj := Option.some.inj h
              subst hj
              refine out_then_normal ?_
              exact ⟨_, St.cast (P := Go.Proofs.Try.prog) [] [] [2, 3, 4, 5, 15, 17, 18, 19, 20, 21] [7] [1003, 0, 1, 2] _ [] (by kernel_rfl) trivial S⟩
            · clear h; have h := bif_f hb6 e8
              refine wp_skip ?_
              have hj := Option.some.inj h
              subst hj
              refine out_then_normal ?_
              exact ⟨_, St.cast (P := Go.Proofs.Try.prog) [] [] [2, 3, 4, 5, 15, 17, 18, 19, 20, 21] [7] [1003, 0, 1, 2] _ [] (by kernel_rfl) trivial S⟩
            clear S; intro E a w S
            refine out_then_normal ?_
            refine wp_seq ?_
            refine sym_seq lay_ok mixed [] [2, 3, 4, 5, 15, 17, 18, 19, 21, 96] [] (⟨[(2, .sl 2), (3, .v (.int .i64 fore)), (4, .v (.int .i64 cut)), (5, .v (.int .i64 end')), (15, .sl 1003), (17, .gr 0), (18, .v (.int .i64 (b1.1 + (l.getD (Int.toNat b1.2.1) default)))), (19, .v (.int .i64 b1.2.1)), (21, .v (.int .i64 j2)), (96, .v (.bool (decide (r5.lo < end'))))], ⟨[], ((1003, ⟨r4.1.length, 3, fun i => [.int .i64 ((r4.1.getD i default).amount), .int .i64 (((r4.1.getD i default).alcohol).lo), .int .i64 (((r4.1.getD i default).alcohol).hi)]⟩) :: (wormtubref04_Cuts_R c l)), [(0, ⟨3, 1, b1.2.2.length, b1.2.2.flatMap (fun x => [.int .i64 x])⟩)]⟩⟩) [] S (by kernel_rfl) (by kernel_rfl) (by kernel_rfl) trivial ?_
            clear S; intro E a w S
            obtain ⟨j3, e7, h⟩ := bind_some h
            refine sym_meet_last (b := decide (r5.lo < end')) (⟨[(2, .sl 2), (3, .v (.int .i64 fore)), (4, .v (.int .i64 cut)), (5, .v (.int .i64 end')), (15, .sl 1003), (17, .gr 0), (18, .v (.int .i64 (b1.1 + (l.getD (Int.toNat b1.2.1) default)))), (19, .v (.int .i64 b1.2.1)), (21, .v (.int .i64 j3))], ⟨[], ((1003, ⟨r4.1.length, 3, fun i => [.int .i64 ((r4.1.getD i default).amount), .int .i64 (((r4.1.getD i default).alcohol).lo), .int .i64 (((r4.1.getD i default).alcohol).hi)]⟩) :: (wormtubref04_Cuts_R c l)), [(0, ⟨3, 1, b1.2.2.length, b1.2.2.flatMap (fun x => [.int .i64 x])⟩)]⟩⟩) S rfl (fun hb7 => ?_) (fun hb7 => ?_) ?_
            · clear h; have h := bif_t hb7 e7
              obtain ⟨g6, h⟩ := grd_some h
              refine sym_last lay_ok mixed [] [2, 3, 4, 5, 15, 17, 18, 19, 21] [] (⟨[(2, .sl 2), (3, .v (.int .i64 fore)), (4, .v (.int .i64 cut)), (5, .v (.int .i64 end')), (15, .sl 1003), (17, .gr 0), (18, .v (.int .i64 (b1.1 + (l.getD (Int.toNat b1.2.1) default)))), (19, .v (.int .i64 b1.2.1)), (21, .v (.int .i64 (j2 + 8)))], ⟨[], ((1003, ⟨r4.1.length, 3, fun i => [.int .i64 ((r4.1.getD i default).amount), .int .i64 (((r4.1.getD i default).alcohol).lo), .int .i64 (((r4.1.getD i default).alcohol).hi)]⟩) :: (wormtubref04_Cuts_R c l)), [(0, ⟨3, 1, b1.2.2.length, b1.2.2.flatMap (fun x => [.int .i64 x])⟩)]⟩⟩) [.rng .i64 (j2 + 8)] S (by kernel_rfl) (by kernel_rfl) (by kernel_rfl) ⟨rngI64 g6, trivial⟩ ?_
              clear S; intro E a w S
              have hj := Option.some.inj h
              subst hj
              refine out_then_normal ?_
              exact ⟨_, St.cast (P := Go.Proofs.Try.prog) [] [] [2, 3, 4, 5, 15, 17, 18, 19, 21] [] [1003, 0, 1, 2] _ [] (by kernel_rfl) trivial S⟩
            · clear h; have h := bif_f hb7 e7
              refine wp_skip ?_
              have hj := Option.some.inj h
              subst hj
              refine out_then_normal ?_
              exact ⟨_, St.cast (P := Go.Proofs.Try.prog) [] [] [2, 3, 4, 5, 15, 17, 18, 19, 21] [] [1003, 0, 1, 2] _ [] (by kernel_rfl) trivial S⟩
            clear S; intro E a w S
            refine out_then_normal ?_
            refine wp_seq ?_
            refine sym_seq lay_ok mixed [] [2, 3, 4, 5, 15, 17, 18, 19, 21, 101] [] (⟨[(2, .sl 2), (3, .v (.int .i64 fore)), (4, .v (.int .i64 cut)), (5, .v (.int .i64 end')), (15, .sl 1003), (17, .gr 0), (18, .v (.int .i64 (b1.1 + (l.getD (Int.toNat b1.2.1) default)))), (19, .v (.int .i64 b1.2.1)), (21, .v (.int .i64 j3)), (101, .v (.bool (decide ((b1.1 + (l.getD (Int.toNat b1.2.1) default)) ≤ fore))))], ⟨[], ((1003, ⟨r4.1.length, 3, fun i => [.int .i64 ((r4.1.getD i default).amount), .int .i64 (((r4.1.getD i default).alcohol).lo), .int .i64 (((r4.1.getD i default).alcohol).hi)]⟩) :: (wormtubref04_Cuts_R c l)), [(0, ⟨3, 1, b1.2.2.length, b1.2.2.flatMap (fun x => [.int .i64 x])⟩)]⟩⟩) [] S (by kernel_rfl) (by kernel_rfl) (by kernel_rfl) trivial ?_
            clear S; intro E a w S
            refine sym_if_last (b := decide ((b1.1 + (l.getD (Int.toNat b1.2.1) default)) ≤ fore)) S rfl (fun hb8 => ?_) (fun hb8 => ?_)
            · have h := bif_t hb8 h
              refine sym_last lay_ok mixed [] [2, 3, 4, 5, 15, 17, 18, 19, 21] [] (⟨[(2, .sl 2), (3, .v (.int .i64 fore)), (4, .v (.int .i64 cut)), (5, .v (.int .i64 end')), (15, .sl 1003), (17, .gr 0), (18, .v (.int .i64 (b1.1 + (l.getD (Int.toNat b1.2.1) default)))), (19, .v (.int .i64 b1.2.1)), (21, .v (.int .i64 1))], ⟨[], ((1003, ⟨r4.1.length, 3, fun i => [.int .i64 ((r4.1.getD i default).amount), .int .i64 (((r4.1.getD i default).alcohol).lo), .int .i64 (((r4.1.getD i default).alcohol).hi)]⟩) :: (wormtubref04_Cuts_R c l)), [(0, ⟨3, 1, b1.2.2.length, b1.2.2.flatMap (fun x => [.int .i64 x])⟩)]⟩⟩) [] S (by kernel_rfl) (by kernel_rfl) (by kernel_rfl) trivial ?_
              clear S; intro E a w S
              refine out_then_normal ?_
              obtain ⟨g7, h⟩ := grd_some h
              refine sym_open_last ?_
              refine sym_runP lay_ok [(2, { g := 8 })] 0 3 [2, 3, 4, 5, 15, 17, 18, 19, 102, 104] [8] (⟨[(2, .sl 2), (3, .v (.int .i64 fore)), (4, .v (.int .i64 cut)), (5, .v (.int .i64 end')), (15, .sl 1003), (17, .gr 0), (18, .v (.int .i64 (b1.1 + (l.getD (Int.toNat b1.2.1) default)))), (19, .v (.int .i64 b1.2.1)), (102, .gr 0), (104, .row 8 0 1 1)], ⟨[(8, .blk 3 [.v (.int .i64 1)])], ((1003, ⟨r4.1.length, 3, fun i => [.int .i64 ((r4.1.getD i default).amount), .int .i64 (((r4.1.getD i default).alcohol).lo), .int .i64 (((r4.1.getD i default).alcohol).hi)]⟩) :: (wormtubref04_Cuts_R c l)), [(0, ⟨3, 1, b1.2.2.length, b1.2.2.flatMap (fun x => [.int .i64 x])⟩)]⟩⟩) [] S (by kernel_rfl) (by kernel_rfl) trivial ?_
              clear S; intro E a w S
              refine sym_append lay_ok rfl (.tmp 102) (.tmp 104) 22 rfl rfl S 0 8 0 1 1 3 [.v (.int .i64 1)] ⟨3, 1, b1.2.2.length, b1.2.2.flatMap (fun x => [.int .i64 x])⟩ ⟨.int .i64, 1, [.int .i64 0], false, 8⟩ ⟨.sli 3 1, 1, [.slice none 0 0], false, 24⟩ rfl rfl rfl rfl rfl rfl rfl rfl (show 0 < 1 by decide) rfl rfl (fun e he => by cases he; exact Nat.lt_of_succ_le (Nat.le_of_ble_eq_true rfl)) ⟨3, 1, (b1.2.2 ++ [1]).length, (b1.2.2 ++ [1]).flatMap (fun x => [.int .i64 x])⟩ rfl rfl (by simp) (fun E => by simp [SV.vals, SV.val]) (Nat.le_trans g7 (by decide)) (show (b1.2.2.length + 1) * 8 ≤ 140737488355328 by have := g7; omega) rfl ?_
              clear S; intro v0 E a w S; have S := St.pickG S [2, 3, 4, 5, 15, 18, 19, 104, 105] [8] [0] (⟨[(2, .sl 2), (3, .v (.int .i64 fore)), (4, .v (.int .i64 cut)), (5, .v (.int .i64 end')), (15, .sl 1003), (18, .v (.int .i64 (b1.1 + (l.getD (Int.toNat b1.2.1) default)))), (19, .v (.int .i64 b1.2.1)), (104, .row 8 0 1 1), (105, .gr 0)], ⟨[(8, .blk 3 [.v (.int .i64 1)])], ((1003, ⟨r4.1.length, 3, fun i => [.int .i64 ((r4.1.getD i default).amount), .int .i64 (((r4.1.getD i default).alcohol).lo), .int .i64 (((r4.1.getD i default).alcohol).hi)]⟩) :: (wormtubref04_Cuts_R c l)), [(0, ⟨3, 1, (b1.2.2 ++ [1]).length, (b1.2.2 ++ [1]).flatMap (fun x => [.int .i64 x])⟩)]⟩⟩) (by kernel_rfl)
              refine sym_runP lay_ok [] 4 1 [2, 3, 4, 5, 15, 18, 19, 17] [] (⟨[(2, .sl 2), (3, .v (.int .i64 fore)), (4, .v (.int .i64 cut)), (5, .v (.int .i64 end')), (15, .sl 1003), (18, .v (.int .i64 (b1.1 + (l.getD (Int.toNat b1.2.1) default)))), (19, .v (.int .i64 b1.2.1)), (17, .gr 0)], ⟨[], ((1003, ⟨r4.1.length, 3, fun i => [.int .i64 ((r4.1.getD i default).amount), .int .i64 (((r4.1.getD i default).alcohol).lo), .int .i64 (((r4.1.getD i default).alcohol).hi)]⟩) :: (wormtubref04_Cuts_R c l)), [(0, ⟨3, 1, (b1.2.2 ++ [1]).length, (b1.2.2 ++ [1]).flatMap (fun x => [.int .i64 x])⟩)]⟩⟩) [] S (by kernel_rfl) (by kernel_rfl) trivial ?_
              clear S; intro E a w S
              refine sym_done rfl ?_
              have S := St.pickG S [2, 3, 4, 5, 15, 18, 19, 17] [] [0] (⟨[(2, .sl 2), (3, .v (.int .i64 fore)), (4, .v (.int .i64 cut)), (5, .v (.int .i64 end')), (15, .sl 1003), (18, .v (.int .i64 (b1.1 + (l.getD (Int.toNat b1.2.1) default)))), (19, .v (.int .i64 b1.2.1)), (17, .gr 0)], ⟨[], ((1003, ⟨r4.1.length, 3, fun i => [.int .i64 ((r4.1.getD i default).amount), .int .i64 (((r4.1.getD i default).alcohol).lo), .int .i64 (((r4.1.getD i default).alcohol).hi)]⟩) :: (wormtubref04_Cuts_R c l)), [(0, ⟨3, 1, (b1.2.2 ++ [1]).length, (b1.2.2 ++ [1]).flatMap (fun x => [.int .i64 x])⟩)]⟩⟩) (by kernel_rfl)
              refine out_block_normal ?_
              refine out_then_normal ?_
              obtain ⟨g8, h⟩ := grd_some h
              refine sym_last lay_ok mixed [] [2, 3, 4, 5, 15, 18, 19, 17] [] (⟨[(2, .sl 2), (3, .v (.int .i64 fore)), (4, .v (.int .i64 cut)), (5, .v (.int .i64 end')), (15, .sl 1003), (18, .v (.int .i64 (b1.1 + (l.getD (Int.toNat b1.2.1) default)))), (19, .v (.int .i64 (b1.2.1 + 1))), (17, .gr 0)], ⟨[], ((1003, ⟨r4.1.length, 3, fun i => [.int .i64 ((r4.1.getD i default).amount), .int .i64 (((r4.1.getD i default).alcohol).lo), .int .i64 (((r4.1.getD i default).alcohol).hi)]⟩) :: (wormtubref04_Cuts_R c l)), [(0, ⟨3, 1, (b1.2.2 ++ [1]).length, (b1.2.2 ++ [1]).flatMap (fun x => [.int .i64 x])⟩)]⟩⟩) [.rng .i64 (b1.2.1 + 1)] S (by kernel_rfl) (by kernel_rfl) (by kernel_rfl) ⟨rngI64 g8, trivial⟩ ?_
              clear S; intro E a w S
              refine out_then_normal ?_
              exact ih ((b1.1 + (l.getD (Int.toNat b1.2.1) default)), (b1.2.1 + 1), (b1.2.2 ++ [1])) _ _ _ h (St.cast (P := Go.Proofs.Try.prog) [] [] [2, 3, 4, 5, 15, 17, 18, 19] [] [1003, 0, 1, 2] _ [] (by kernel_rfl) trivial S)
            · have h := bif_f hb8 h
              refine wp_skip ?_
              refine out_then_normal ?_
              obtain ⟨g9, h⟩ := grd_some h
              refine sym_open_last ?_
              refine sym_runP lay_ok [(2, { g := 9 })] 0 3 [2, 3, 4, 5, 15, 17, 18, 19, 102, 104] [9] (⟨[(2, .sl 2), (3, .v (.int .i64 fore)), (4, .v (.int .i64 cut)), (5, .v (.int .i64 end')), (15, .sl 1003), (17, .gr 0), (18, .v (.int .i64 (b1.1 + (l.getD (Int.toNat b1.2.1) default)))), (19, .v (.int .i64 b1.2.1)), (102, .gr 0), (104, .row 9 0 1 1)], ⟨[(9, .blk 3 [.v (.int .i64 j3)])], ((1003, ⟨r4.1.length, 3, fun i => [.int .i64 ((r4.1.getD i default).amount), .int .i64 (((r4.1.getD i default).alcohol).lo), .int .i64 (((r4.1.getD i default).alcohol).hi)]⟩) :: (wormtubref04_Cuts_R c l)), [(0, ⟨3, 1, b1.2.2.length, b1.2.2.flatMap (fun x => [.int .i64 x])⟩)]⟩⟩) [] S (by kernel_rfl) (by kernel_rfl) trivial ?_
              clear S; intro E a w S
              refine sym_append lay_ok rfl (.tmp 102) (.tmp 104) 22 rfl rfl S 0 9 0 1 1 3 [.v (.int .i64 j3)] ⟨3, 1, b1.2.2.length, b1.2.2.flatMap (fun x => [.int .i64 x])⟩ ⟨.int .i64, 1, [.int .i64 0], false, 8⟩ ⟨.sli 3 1, 1, [.slice none 0 0], false, 24⟩ rfl rfl rfl rfl rfl rfl rfl rfl (show 0 < 1 by decide) rfl rfl (fun e he => by cases he; exact Nat.lt_of_succ_le (Nat.le_of_ble_eq_true rfl)) ⟨3, 1, (b1.2.2 ++ [j3]).length, (b1.2.2 ++ [j3]).flatMap (fun x => [.int .i64 x])⟩ rfl rfl (by simp) (fun E => by simp [SV.vals, SV.val]) (Nat.le_trans g9 (by decide)) (show (b1.2.2.length + 1) * 8 ≤ 140737488355328 by have := g9; omega) rfl ?_
              clear S; intro v0 E a w S; have S := St.pickG S [2, 3, 4, 5, 15, 18, 19, 104, 105] [9] [0] (⟨[(2, .sl 2), (3, .v (.int .i64 fore)), (4, .v (.int .i64 cut)), (5, .v (.int .i64 end')), (15, .sl 1003), (18, .v (.int .i64 (b1.1 + (l.getD (Int.toNat b1.2.1) default)))), (19, .v (.int .i64 b1.2.1)), (104, .row 9 0 1 1), (105, .gr 0)], ⟨[(9, .blk 3 [.v (.int .i64 j3)])], ((1003, ⟨r4.1.length, 3, fun i => [.int .i64 ((r4.1.getD i default).amount), .int .i64 (((r4.1.getD i default).alcohol).lo), .int .i64 (((r4.1.getD i default).alcohol).hi)]⟩) :: (wormtubref04_Cuts_R c l)), [(0, ⟨3, 1, (b1.2.2 ++ [j3]).length, (b1.2.2 ++ [j3]).flatMap (fun x => [.int .i64 x])⟩)]⟩⟩) (by kernel_rfl)
              refine sym_runP lay_ok [] 4 1 [2, 3, 4, 5, 15, 18, 19, 17] [] (⟨[(2, .sl 2), (3, .v (.int .i64 fore)), (4, .v (.int .i64 cut)), (5, .v (.int .i64 end')), (15, .sl 1003), (18, .v (.int .i64 (b1.1 + (l.getD (Int.toNat b1.2.1) default)))), (19, .v (.int .i64 b1.2.1)), (17, .gr 0)], ⟨[], ((1003, ⟨r4.1.length, 3, fun i => [.int .i64 ((r4.1.getD i default).amount), .int .i64 (((r4.1.getD i default).alcohol).lo), .int .i64 (((r4.1.getD i default).alcohol).hi)]⟩) :: (wormtubref04_Cuts_R c l)), [(0, ⟨3, 1, (b1.2.2 ++ [j3]).length, (b1.2.2 ++ [j3]).flatMap (fun x => [.int .i64 x])⟩)]⟩⟩) [] S (by kernel_rfl) (by kernel_rfl) trivial ?_
              clear S; intro E a w S
              refine sym_done rfl ?_
              have S := St.pickG S [2, 3, 4, 5, 15, 18, 19, 17] [] [0] (⟨[(2, .sl 2), (3, .v (.int .i64 fore)), (4, .v (.int .i64 cut)), (5, .v (.int .i64 end')), (15, .sl 1003), (18, .v (.int .i64 (b1.1 + (l.getD (Int.toNat b1.2.1) default)))), (19, .v (.int .i64 b1.2.1)), (17, .gr 0)], ⟨[], ((1003, ⟨r4.1.length, 3, fun i => [.int .i64 ((r4.1.getD i default).amount), .int .i64 (((r4.1.getD i default).alcohol).lo), .int .i64 (((r4.1.getD i default).alcohol).hi)]⟩) :: (wormtubref04_Cuts_R c l)), [(0, ⟨3, 1, (b1.2.2 ++ [j3]).length, (b1.2.2 ++ [j3]).flatMap (fun x => [.int .i64 x])⟩)]⟩⟩) (by kernel_rfl)
              refine out_block_normal ?_
              refine out_then_normal ?_
              obtain ⟨g10, h⟩ := grd_some h
              refine sym_last lay_ok mixed [] [2, 3, 4, 5, 15, 18, 19, 17] [] (⟨[(2, .sl 2), (3, .v (.int .i64 fore)), (4, .v (.int .i64 cut)), (5, .v (.int .i64 end')), (15, .sl 1003), (18, .v (.int .i64 (b1.1 + (l.getD (Int.toNat b1.2.1) default)))), (19, .v (.int .i64 (b1.2.1 + 1))), (17, .gr 0)], ⟨[], ((1003, ⟨r4.1.length, 3, fun i => [.int .i64 ((r4.1.getD i default).amount), .int .i64 (((r4.1.getD i default).alcohol).lo), .int .i64 (((r4.1.getD i default).alcohol).hi)]⟩) :: (wormtubref04_Cuts_R c l)), [(0, ⟨3, 1, (b1.2.2 ++ [j3]).length, (b1.2.2 ++ [j3]).flatMap (fun x => [.int .i64 x])⟩)]⟩⟩) [.rng .i64 (b1.2.1 + 1)] S (by kernel_rfl) (by kernel_rfl) (by kernel_rfl) ⟨rngI64 g10, trivial⟩ ?_
              clear S; intro E a w S
              refine out_then_normal ?_
              exact ih ((b1.1 + (l.getD (Int.toNat b1.2.1) default)), (b1.2.1 + 1), (b1.2.2 ++ [j3])) _ _ _ h (St.cast (P := Go.Proofs.Try.prog) [] [] [2, 3, 4, 5, 15, 17, 18, 19] [] [1003, 0, 1, 2] _ [] (by kernel_rfl) trivial S)
          · have h := bif_f hb4 h
            refine wp_exit ?_
            refine out_then_exit ?_
            refine out_then_exit ?_
            refine out_block_here ?_
            refine out_then_normal ?_
            have hr := Option.some.inj h
            subst hr
            exact ⟨_, b1.2.2, hp1, St.cast (P := Go.Proofs.Try.prog) [] [] [17] [] [1003, 0, 1, 2] _ [] (by kernel_rfl) trivial S⟩
        clear e5 S
        rintro a w ⟨E, x1, h, S⟩
        rw [wormtubref04_Cuts_k1] at h
        refine out_then_normal ?_
        refine sym_seq lay_ok mixed [] [12, 13] [] (⟨[(12, .gr 0), (13, .v (.int .i64 0))], ⟨[], ((1003, ⟨r4.1.length, 3, fun i => [.int .i64 ((r4.1.getD i default).amount), .int .i64 (((r4.1.getD i default).alcohol).lo), .int .i64 (((r4.1.getD i default).alcohol).hi)]⟩) :: (wormtubref04_Cuts_R c l)), [(0, ⟨3, 1, x1.length, x1.flatMap (fun x => [.int .i64 x])⟩)]⟩⟩) [] S (by kernel_rfl) (by kernel_rfl) (by kernel_rfl) trivial ?_
        clear S; intro E a w S
        refine wp_ret ?_
        have h := Option.some.inj h
        subst h
        exact sym_ret lay_ok [.gr 0, .v (.int .i64 0)] (by kernel_rfl) rfl S ⟨vfun [E.gr 0], rfl, S.below rfl, vfun_one [E.gr 0] ⟨(S.gr_one (k := 0) rfl), trivial⟩, (((S.mem.gr 0 _ rfl).slice (S.gr_new rfl (k := 0) rfl) 0 (vfun [E.gr 0]) rfl _ (flat_get (fun x => [.int .i64 x]) 1 (fun _ => rfl) x1)).and (HeldIn.true fun _ => trivial))⟩
def wormtublaw04_ground_R (c : MCurve) (by' : List Int) : List (Nat × Q) := [(0, ⟨c.liquid.length, 1, fun i => [.int .i64 (c.liquid.getD i default)]⟩), (1, ⟨c.vapour.length, 2, fun i => [.int .i64 ((c.vapour.getD i default).lo), .int .i64 ((c.vapour.getD i default).hi)]⟩), (2, ⟨by'.length, 1, fun i => [.int .u32 (by'.getD i default)]⟩)]
def wormtublaw04_ground_k1 (alcohol : Int) (x1 : Int) : Option (Int × Bool) :=
grd (InI64 (alcohol - x1)) <|
some ((alcohol - x1), true)
def wormtublaw04_ground_l1 (fuel : Nat) (c : MCurve) (d : Int) (by' : List Int) : Nat → (Int × Int × Int) → Option (Lp Int (Int × Bool))
  | 0, _ => none
  | n + 1, b1 =>
    (bif decide (b1.2.2 < d) then
    (grd (InI64 (100 * b1.1)) <|
    (wormtubref04_Line fuel c false b1.2.1 (100 * b1.1)).bind fun (r1 : (Int × Int)) =>
    grd (InI64 (r1.1 * 100) ∧ InI64 ((r1.1 * 100) + r1.2) ∧ InI64 (((r1.1 * 100) + r1.2) - 1) ∧ ¬ r1.2 = 0 ∧ InI64 ((((r1.1 * 100) + r1.2) - 1).tdiv r1.2)) <|
    (bif decide (1 < b1.1) then
    (grd (InI64 (b1.2.1 - 1000000) ∧ InI64 (b1.1 - 1) ∧ InI64 (100 * (b1.1 - 1))) <|
    (wormtubref04_Line fuel c true (max 0 (b1.2.1 - 1000000)) (100 * (b1.1 - 1))).bind fun (r2 : (Int × Int)) =>
    grd (InI64 (r2.1 * 100) ∧ ¬ r2.2 = 0 ∧ InI64 ((r2.1 * 100).tdiv r2.2)) <|
    some ((r2.1 * 100).tdiv r2.2))
    else
    (some 1000000)).bind fun (j1 : Int) =>
    grd (InI64 (b1.1 - 1) ∧ InI64 (1000000 * (b1.1 - 1)) ∧ InI64 (b1.2.1 - (1000000 * (b1.1 - 1)))) <|
    (bif decide ((min j1 b1.2.1) < (max ((((r1.1 * 100) + r1.2) - 1).tdiv r1.2) (b1.2.1 - (1000000 * (b1.1 - 1))))) then
    (some (Lp.ret (0, false)))
    else
    (grd (¬ ((by'.length : Nat) : Int) = 0 ∧ ((0 : Int) ≤ (b1.2.2.tmod ((by'.length : Nat) : Int)) ∧ ((b1.2.2.tmod ((by'.length : Nat) : Int)) : Int) < ((by'.length : Nat) : Int))) <|
    (wormtublaw04_inner (MSpan.mk (max ((((r1.1 * 100) + r1.2) - 1).tdiv r1.2) (b1.2.1 - (1000000 * (b1.1 - 1)))) (min j1 b1.2.1)) (by'.getD (Int.toNat (b1.2.2.tmod ((by'.length : Nat) : Int))) default)).bind fun (r3 : Int) =>
    grd (InI64 (b1.2.1 - r3)) <|
    grd (InI64 (b1.1 - 1)) <|
    grd (InI64 (b1.2.2 + 1)) <|
    wormtublaw04_ground_l1 fuel c d by' n ((b1.1 - 1), (b1.2.1 - r3), (b1.2.2 + 1)))))
    else
    (some (Lp.done b1.2.1)))
def wormtublaw04_ground (fuel : Nat) (c : MCurve) (volume : Int) (alcohol : Int) (d : Int) (by' : List Int) : Option (Int × Bool) :=
(wormtublaw04_ground_l1 fuel c d by' fuel (volume, alcohol, 0)).bind fun lr1 => lr1.go fun x1 => wormtublaw04_ground_k1 alcohol x1
set_option maxRecDepth 100000 in
set_option maxHeartbeats 4000000 in
theorem wormtublaw04_ground_ok (fuel : Nat) (c : MCurve) (volume : Int) (alcohol : Int) (d : Int) (by' : List Int) (W : World) (A0 : Option Addr) (c0 : Nat) (h0 : c.liquid.length ≤ c0) (s0 : SlAt W A0 c.liquid.length 1 fun i => [.int .i64 (c.liquid.getD i default)]) (A1 : Option Addr) (c1 : Nat) (h1 : c.vapour.length ≤ c1) (s1 : SlAt W A1 c.vapour.length 2 fun i => [.int .i64 ((c.vapour.getD i default).lo), .int .i64 ((c.vapour.getD i default).hi)]) (A2 : Option Addr) (c2 : Nat) (h2 : by'.length ≤ c2) (s2 : SlAt W A2 by'.length 1 fun i => [.int .u32 (by'.getD i default)]) (res : Int × Bool) (h : wormtublaw04_ground fuel c volume alcohol d by' = some res) :
    Calls Go.Proofs.Try.prog 42 #[.agg #[.slice A0 c.liquid.length c0, .slice A1 c.vapour.length c1], .int .i64 volume, .int .i64 alcohol, .int .i64 d, .slice A2 by'.length c2] W fun e w' => e = .returned (.tuple #[.int .i64 res.1, .bool res.2]) ∧ Below W.heap.size W w' := by
  refine sym_call (f := 42) (fn := Go.Proofs.Try.f42) (c := Go.Proofs.Try.f42.body.get rfl) Go.Proofs.Try.func42 rfl [.agg [.sl 0, .sl 1], .v (.int .i64 volume), .v (.int .i64 alcohol), .v (.int .i64 d), .sl 2] (wormtublaw04_ground_R c by') [] (envOf [(0, ⟨A0, c.liquid.length, c0, 1⟩), (1, ⟨A1, c.vapour.length, c1, 2⟩), (2, ⟨A2, by'.length, c2, 1⟩)]) allR (fun _ _ => rfl) (by kernel_rfl) (envOf_one trivial) ⟨s0.rd h0, s1.rd h1, s2.rd h2, trivial⟩ (AllRR.all _ _) trivial fun E a w S => ?_
  rw [wormtublaw04_ground] at h
  refine sym_seq lay_ok mixed [(0, { g := 0 })] [1, 2, 3, 4, 5] [0] (⟨[(1, .v (.int .i64 volume)), (2, .v (.int .i64 alcohol)), (3, .v (.int .i64 d)), (4, .sl 2), (5, .own 0 0)], ⟨[(0, .blk 25 [.sl 0, .sl 1])], (wormtublaw04_ground_R c by'), []⟩⟩) [] S (by kernel_rfl) (by kernel_rfl) (by kernel_rfl) trivial ?_
  clear S; intro E a w S
  refine sym_seq lay_ok mixed [] [1, 2, 3, 4, 5, 12] [0] (⟨[(1, .v (.int .i64 volume)), (2, .v (.int .i64 alcohol)), (3, .v (.int .i64 d)), (4, .sl 2), (5, .own 0 0), (12, .v (.int .i64 alcohol))], ⟨[(0, .blk 25 [.sl 0, .sl 1])], (wormtublaw04_ground_R c by'), []⟩⟩) [] S (by kernel_rfl) (by kernel_rfl) (by kernel_rfl) trivial ?_
  clear S; intro E a w S
  refine wp_seq ?_
  refine sym_seq lay_ok mixed [] [1, 2, 4, 5, 12, 21, 22] [0] (⟨[(1, .v (.int .i64 volume)), (2, .v (.int .i64 alcohol)), (4, .sl 2), (5, .own 0 0), (12, .v (.int .i64 alcohol)), (21, .v (.int .i64 d)), (22, .v (.int .i64 0))], ⟨[(0, .blk 25 [.sl 0, .sl 1])], (wormtublaw04_ground_R c by'), []⟩⟩) [] S (by kernel_rfl) (by kernel_rfl) (by kernel_rfl) trivial ?_
  clear S; intro E a w S
  obtain ⟨lr1, e1, hp1⟩ := bind_some h
  clear h
  refine sym_block_last (G := fun a w => ∃ E, ∃ x1 : Int, wormtublaw04_ground_k1 alcohol x1 = some res ∧ St ⟨W, noC, Go.Proofs.Try.f42.ntmps, [], allR, noρ, (envOf [(0, ⟨A0, c.liquid.length, c0, 1⟩), (1, ⟨A1, c.vapour.length, c1, 2⟩), (2, ⟨A2, by'.length, c2, 1⟩)]).sl, (envOf [(0, ⟨A0, c.liquid.length, c0, 1⟩), (1, ⟨A1, c.vapour.length, c1, 2⟩), (2, ⟨A2, by'.length, c2, 1⟩)]).x⟩ (⟨[(2, .v (.int .i64 x1)), (12, .v (.int .i64 alcohol))], ⟨[], (wormtublaw04_ground_R c by'), []⟩⟩) E a w) ?_ ?_
  · refine wp_loop_rounds fuel ?_
    refine sym_rounds (F := fun n b1 => wormtublaw04_ground_l1 fuel c d by' n b1 = some lr1) (H := fun b1 => ⟨[(1, .v (.int .i64 b1.1)), (2, .v (.int .i64 b1.2.1)), (4, .sl 2), (5, .own 0 0), (12, .v (.int .i64 alcohol)), (21, .v (.int .i64 d)), (22, .v (.int .i64 b1.2.2))], ⟨[(0, .blk 25 [.sl 0, .sl 1])], (wormtublaw04_ground_R c by'), []⟩⟩) (volume, alcohol, 0) (fun b hb => by have hb : none = some lr1 := hb; cases hb) ?_ _ _ _ _ e1 (St.cast (P := Go.Proofs.Try.prog) [] [] [1, 2, 4, 5, 12, 21, 22] [0] [0, 1, 2] _ [] (by kernel_rfl) trivial S)
    clear e1 S
    intro n b1 E a w h ih S
    rw [wormtublaw04_ground_l1] at h
    refine sym_seq lay_ok mixed [] [1, 2, 4, 5, 12, 21, 22, 23] [0] (⟨[(1, .v (.int .i64 b1.1)), (2, .v (.int .i64 b1.2.1)), (4, .sl 2), (5, .own 0 0), (12, .v (.int .i64 alcohol)), (21, .v (.int .i64 d)), (22, .v (.int .i64 b1.2.2)), (23, .v (.bool (decide (b1.2.2 < d))))], ⟨[(0, .blk 25 [.sl 0, .sl 1])], (wormtublaw04_ground_R c by'), []⟩⟩) [] S (by kernel_rfl) (by kernel_rfl) (by kernel_rfl) trivial ?_
    clear S; intro E a w S
    refine sym_if (b := decide (b1.2.2 < d)) S rfl (fun hb1 => ?_) (fun hb1 => ?_)
    · have h := bif_t hb1 h
      refine wp_skip ?_
      refine out_then_normal ?_
      refine wp_seq ?_
      refine wp_block ?_
      refine sym_seq lay_ok mixed [] [1, 2, 4, 5, 12, 21, 22, 13] [0] (⟨[(1, .v (.int .i64 b1.1)), (2, .v (.int .i64 b1.2.1)), (4, .sl 2), (5, .own 0 0), (12, .v (.int .i64 alcohol)), (21, .v (.int .i64 d)), (22, .v (.int .i64 b1.2.2)), (13, .v (.int .i64 b1.2.2))], ⟨[(0, .blk 25 [.sl 0, .sl 1])], (wormtublaw04_ground_R c by'), []⟩⟩) [] S (by kernel_rfl) (by kernel_rfl) (by kernel_rfl) trivial ?_
      clear S; intro E a w S
      obtain ⟨g1, h⟩ := grd_some h
      obtain ⟨r1, e2, h⟩ := bind_some h
      refine sym_seq lay_ok mixed [(4, { res := .tup [.v (.int .i64 r1.1), .v (.int .i64 r1.2)] })] [1, 2, 4, 5, 12, 21, 22, 13, 14, 15] [0] (⟨[(1, .v (.int .i64 b1.1)), (2, .v (.int .i64 b1.2.1)), (4, .sl 2), (5, .own 0 0), (12, .v (.int .i64 alcohol)), (21, .v (.int .i64 d)), (22, .v (.int .i64 b1.2.2)), (13, .v (.int .i64 b1.2.2)), (14, .v (.int .i64 r1.1)), (15, .v (.int .i64 r1.2))], ⟨[(0, .blk 25 [.sl 0, .sl 1])], (wormtublaw04_ground_R c by'), []⟩⟩) [.rng .i64 (100 * b1.1), .call ⟨[], (wormtublaw04_ground_R c by'), []⟩ 64 [.agg [.sl 0, .sl 1], .v (.bool false), .v (.int .i64 b1.2.1), .v (.int .i64 (100 * b1.1))] (.tup [.v (.int .i64 r1.1), .v (.int .i64 r1.2)])] S (by kernel_rfl) (by kernel_rfl) (by kernel_rfl) ⟨rngI64 g1, ⟨enters_64, fun E W _ hm => by obtain ⟨A0, c0, q0, l0, s0, _⟩ := Mem.sl hm (s := 0) rfl; obtain ⟨A1, c1, q1, l1, s1, _⟩ := Mem.sl hm (s := 1) rfl; simp only [SV.vals, SV.val, q0, q1]; exact wormtubref04_Line_ok fuel c false b1.2.1 (100 * b1.1) W A0 c0 l0 s0 A1 c1 l1 s1 r1 e2⟩, trivial⟩ ?_
      clear S; intro E a w S
      obtain ⟨⟨g2, g3, g4, g5, g6⟩, h⟩ := grd_some h
      refine sym_seq lay_ok mixed [] [1, 2, 4, 5, 12, 21, 22, 13, 16] [0] (⟨[(1, .v (.int .i64 b1.1)), (2, .v (.int .i64 b1.2.1)), (4, .sl 2), (5, .own 0 0), (12, .v (.int .i64 alcohol)), (21, .v (.int .i64 d)), (22, .v (.int .i64 b1.2.2)), (13, .v (.int .i64 b1.2.2)), (16, .v (.int .i64 ((((r1.1 * 100) + r1.2) - 1).tdiv r1.2)))], ⟨[(0, .blk 25 [.sl 0, .sl 1])], (wormtublaw04_ground_R c by'), []⟩⟩) [.rng .i64 (r1.1 * 100), .rng .i64 ((r1.1 * 100) + r1.2), .rng .i64 (((r1.1 * 100) + r1.2) - 1), .nz r1.2, .rng .i64 ((((r1.1 * 100) + r1.2) - 1).tdiv r1.2)] S (by kernel_rfl) (by kernel_rfl) (by kernel_rfl) ⟨rngI64 g2, rngI64 g3, rngI64 g4, g5, rngI64 g6, trivial⟩ ?_
      clear S; intro E a w S
      refine sym_seq lay_ok mixed [] [1, 2, 4, 5, 12, 21, 22, 13, 16, 17] [0] (⟨[(1, .v (.int .i64 b1.1)), (2, .v (.int .i64 b1.2.1)), (4, .sl 2), (5, .own 0 0), (12, .v (.int .i64 alcohol)), (21, .v (.int .i64 d)), (22, .v (.int .i64 b1.2.2)), (13, .v (.int .i64 b1.2.2)), (16, .v (.int .i64 ((((r1.1 * 100) + r1.2) - 1).tdiv r1.2))), (17, .v (.int .i64 1000000))], ⟨[(0, .blk 25 [.sl 0, .sl 1])], (wormtublaw04_ground_R c by'), []⟩⟩) [] S (by kernel_rfl) (by kernel_rfl) (by kernel_rfl) trivial ?_
      clear S; intro E a w S
      refine wp_seq ?_
      refine sym_seq lay_ok mixed [] [1, 2, 4, 5, 12, 21, 22, 13, 16, 17, 41] [0] (⟨[(1, .v (.int .i64 b1.1)), (2, .v (.int .i64 b1.2.1)), (4, .sl 2), (5, .own 0 0), (12, .v (.int .i64 alcohol)), (21, .v (.int .i64 d)), (22, .v (.int .i64 b1.2.2)), (13, .v (.int .i64 b1.2.2)), (16, .v (.int .i64 ((((r1.1 * 100) + r1.2) - 1).tdiv r1.2))), (17, .v (.int .i64 1000000)), (41, .v (.bool (decide (1 < b1.1))))], ⟨[(0, .blk 25 [.sl 0, .sl 1])], (wormtublaw04_ground_R c by'), []⟩⟩) [] S (by kernel_rfl) (by kernel_rfl) (by kernel_rfl) trivial ?_
      clear S; intro E a w S
      obtain ⟨j1, e5, h⟩ := bind_some h
      refine sym_meet_last (b := decide (1 < b1.1)) (⟨[(1, .v (.int .i64 b1.1)), (2, .v (.int .i64 b1.2.1)), (4, .sl 2), (5, .own 0 0), (12, .v (.int .i64 alcohol)), (21, .v (.int .i64 d)), (22, .v (.int .i64 b1.2.2)), (13, .v (.int .i64 b1.2.2)), (16, .v (.int .i64 ((((r1.1 * 100) + r1.2) - 1).tdiv r1.2))), (17, .v (.int .i64 j1))], ⟨[(0, .blk 25 [.sl 0, .sl 1])], (wormtublaw04_ground_R c by'), []⟩⟩) S rfl (fun hb2 => ?_) (fun hb2 => ?_) ?_
      · clear h; have h := bif_t hb2 e5
        obtain ⟨⟨g7, g8, g9⟩, h⟩ := grd_some h
        obtain ⟨r2, e3, h⟩ := bind_some h
        refine sym_seq lay_ok mixed [(7, { res := .tup [.v (.int .i64 r2.1), .v (.int .i64 r2.2)] })] [1, 2, 4, 5, 12, 21, 22, 13, 16, 18, 19] [0] (⟨[(1, .v (.int .i64 b1.1)), (2, .v (.int .i64 b1.2.1)), (4, .sl 2), (5, .own 0 0), (12, .v (.int .i64 alcohol)), (21, .v (.int .i64 d)), (22, .v (.int .i64 b1.2.2)), (13, .v (.int .i64 b1.2.2)), (16, .v (.int .i64 ((((r1.1 * 100) + r1.2) - 1).tdiv r1.2))), (18, .v (.int .i64 r2.1)), (19, .v (.int .i64 r2.2))], ⟨[(0, .blk 25 [.sl 0, .sl 1])], (wormtublaw04_ground_R c by'), []⟩⟩) [.rng .i64 (b1.2.1 - 1000000), .rng .i64 (b1.1 - 1), .rng .i64 (100 * (b1.1 - 1)), .call ⟨[], (wormtublaw04_ground_R c by'), []⟩ 64 [.agg [.sl 0, .sl 1], .v (.bool true), .v (.int .i64 (max 0 (b1.2.1 - 1000000))), .v (.int .i64 (100 * (b1.1 - 1)))] (.tup [.v (.int .i64 r2.1), .v (.int .i64 r2.2)])] S (by kernel_rfl) (by kernel_rfl) (by kernel_rfl) ⟨rngI64 g7, rngI64 g8, rngI64 g9, ⟨enters_64, fun E W _ hm => by obtain ⟨A0, c0, q0, l0, s0, _⟩ := Mem.sl hm (s := 0) rfl; obtain ⟨A1, c1, q1, l1, s1, _⟩ := Mem.sl hm (s := 1) rfl; simp only [SV.vals, SV.val, q0, q1]; exact wormtubref04_Line_ok fuel c true (max 0 (b1.2.1 - 1000000)) (100 * (b1.1 - 1)) W A0 c0 l0 s0 A1 c1 l1 s1 r2 e3⟩, trivial⟩ ?_
        clear S; intro E a w S
        obtain ⟨⟨g10, g11, g12⟩, h⟩ := grd_some h
        refine sym_last lay_ok mixed [] [1, 2, 4, 5, 12, 21, 22, 13, 16, 17] [0] (⟨[(1, .v (.int .i64 b1.1)), (2, .v (.int .i64 b1.2.1)), (4, .sl 2), (5, .own 0 0), (12, .v (.int .i64 alcohol)), (21, .v (.int .i64 d)), (22, .v (.int .i64 b1.2.2)), (13, .v (.int .i64 b1.2.2)), (16, .v (.int .i64 ((((r1.1 * 100) + r1.2) - 1).tdiv r1.2))), (17, .v (.int .i64 ((r2.1 * 100).tdiv r2.2)))], ⟨[(0, .blk 25 [.sl 0, .sl 1])], (wormtublaw04_ground_R c by'), []⟩⟩) [.rng .i64 (r2.1 * 100), .nz r2.2, .rng .i64 ((r2.1 * 100).tdiv r2.2)] S (by kernel_rfl) (by kernel_rfl) (by kernel_rfl) ⟨rngI64 g10, g11, rngI64 g12, trivial⟩ ?_
        clear S; intro E a w S
        have hj := Option.some.inj h
        subst hj
        refine out_then_normal ?_
        exact ⟨_, St.cast (P := Go.Proofs.Try.prog) [] [] [1, 2, 4, 5, 12, 21, 22, 13, 16, 17] [0] [0, 1, 2] _ [] (by kernel_rfl) trivial S⟩
      · clear h; have h := bif_f hb2 e5
        refine wp_skip ?_
        have hj := Option.some.inj h
        subst hj
        refine out_then_normal ?_
        exact ⟨_, St.cast (P := Go.Proofs.Try.prog) [] [] [1, 2, 4, 5, 12, 21, 22, 13, 16, 17] [0] [0, 1, 2] _ [] (by kernel_rfl) trivial S⟩
      clear S; intro E a w S
      refine out_then_normal ?_
      refine sym_seq lay_ok mixed [] [1, 2, 4, 5, 12, 21, 22, 13, 16, 17] [0] (⟨[(1, .v (.int .i64 b1.1)), (2, .v (.int .i64 b1.2.1)), (4, .sl 2), (5, .own 0 0), (12, .v (.int .i64 alcohol)), (21, .v (.int .i64 d)), (22, .v (.int .i64 b1.2.2)), (13, .v (.int .i64 b1.2.2)), (16, .v (.int .i64 ((((r1.1 * 100) + r1.2) - 1).tdiv r1.2))), (17, .v (.int .i64 (min j1 b1.2.1)))], ⟨[(0, .blk 25 [.sl 0, .sl 1])], (wormtublaw04_ground_R c by'), []⟩⟩) [] S (by kernel_rfl) (by kernel_rfl) (by kernel_rfl) trivial ?_
      clear S; intro E a w S
      obtain ⟨⟨g13, g14, g15⟩, h⟩ := grd_some h
      refine sym_seq lay_ok mixed [] [1, 2, 4, 5, 12, 21, 22, 13, 16, 17] [0] (⟨[(1, .v (.int .i64 b1.1)), (2, .v (.int .i64 b1.2.1)), (4, .sl 2), (5, .own 0 0), (12, .v (.int .i64 alcohol)), (21, .v (.int .i64 d)), (22, .v (.int .i64 b1.2.2)), (13, .v (.int .i64 b1.2.2)), (16, .v (.int .i64 (max ((((r1.1 * 100) + r1.2) - 1).tdiv r1.2) (b1.2.1 - (1000000 * (b1.1 - 1)))))), (17, .v (.int .i64 (min j1 b1.2.1)))], ⟨[(0, .blk 25 [.sl 0, .sl 1])], (wormtublaw04_ground_R c by'), []⟩⟩) [.rng .i64 (b1.1 - 1), .rng .i64 (1000000 * (b1.1 - 1)), .rng .i64 (b1.2.1 - (1000000 * (b1.1 - 1)))] S (by kernel_rfl) (by kernel_rfl) (by kernel_rfl) ⟨rngI64 g13, rngI64 g14, rngI64 g15, trivial⟩ ?_
      clear S; intro E a w S
      refine wp_seq ?_
      refine sym_seq lay_ok mixed [] [1, 2, 4, 5, 12, 21, 22, 13, 16, 17, 69] [0] (⟨[(1, .v (.int .i64 b1.1)), (2, .v (.int .i64 b1.2.1)), (4, .sl 2), (5, .own 0 0), (12, .v (.int .i64 alcohol)), (21, .v (.int .i64 d)), (22, .v (.int .i64 b1.2.2)), (13, .v (.int .i64 b1.2.2)), (16, .v (.int .i64 (max ((((r1.1 * 100) + r1.2) - 1).tdiv r1.2) (b1.2.1 - (1000000 * (b1.1 - 1)))))), (17, .v (.int .i64 (min j1 b1.2.1))), (69, .v (.bool (decide ((min j1 b1.2.1) < (max ((((r1.1 * 100) + r1.2) - 1).tdiv r1.2) (b1.2.1 - (1000000 * (b1.1 - 1))))))))], ⟨[(0, .blk 25 [.sl 0, .sl 1])], (wormtublaw04_ground_R c by'), []⟩⟩) [] S (by kernel_rfl) (by kernel_rfl) (by kernel_rfl) trivial ?_
      clear S; intro E a w S
      refine sym_if_last (b := decide ((min j1 b1.2.1) < (max ((((r1.1 * 100) + r1.2) - 1).tdiv r1.2) (b1.2.1 - (1000000 * (b1.1 - 1)))))) S rfl (fun hb3 => ?_) (fun hb3 => ?_)
      · have h := bif_t hb3 h
        refine sym_seq lay_ok mixed [] [10, 11] [] (⟨[(10, .v (.int .i64 0)), (11, .v (.bool false))], ⟨[], (wormtublaw04_ground_R c by'), []⟩⟩) [] S (by kernel_rfl) (by kernel_rfl) (by kernel_rfl) trivial ?_
        clear S; intro E a w S
        refine wp_ret ?_
        refine out_then_ret ?_
        refine out_block_ret ?_
        refine out_then_ret ?_
        refine out_then_ret ?_
        refine out_block_ret ?_
        refine out_then_ret ?_
        refine out_then_ret ?_
        have hr := Option.some.inj h
        subst hr
        have hr := Option.some.inj hp1
        subst hr
        exact sym_ret lay_ok [.v (.int .i64 0), .v (.bool false)] (by kernel_rfl) rfl S ⟨rfl, S.below rfl⟩
      · have h := bif_f hb3 h
        refine wp_skip ?_
        refine out_then_normal ?_
        obtain ⟨⟨g16, g17⟩, h⟩ := grd_some h
        obtain ⟨r3, e4, h⟩ := bind_some h
        obtain ⟨g18, h⟩ := grd_some h
        refine sym_seq lay_ok mixed [(11, { res := .v (.int .i64 r3) })] [1, 2, 4, 5, 12, 21, 22] [0] (⟨[(1, .v (.int .i64 b1.1)), (2, .v (.int .i64 (b1.2.1 - r3))), (4, .sl 2), (5, .own 0 0), (12, .v (.int .i64 alcohol)), (21, .v (.int .i64 d)), (22, .v (.int .i64 b1.2.2))], ⟨[(0, .blk 25 [.sl 0, .sl 1])], (wormtublaw04_ground_R c by'), []⟩⟩) [.nz ((by'.length : Nat) : Int), .idx (b1.2.2.tmod ((by'.length : Nat) : Int)) by'.length, .idx (b1.2.2.tmod ((by'.length : Nat) : Int)) by'.length, .call ⟨[], (wormtublaw04_ground_R c by'), []⟩ 41 [.agg [.v (.int .i64 (max ((((r1.1 * 100) + r1.2) - 1).tdiv r1.2) (b1.2.1 - (1000000 * (b1.1 - 1))))), .v (.int .i64 (min j1 b1.2.1))], .v (.int .u32 (by'.getD (Int.toNat (b1.2.2.tmod ((by'.length : Nat) : Int))) default))] (.v (.int .i64 r3)), .rng .i64 (b1.2.1 - r3)] S (by kernel_rfl) (by kernel_rfl) (by kernel_rfl) ⟨g16, g17, g17, ⟨enters_41, fun _ W _ _ => wormtublaw04_inner_ok (MSpan.mk (max ((((r1.1 * 100) + r1.2) - 1).tdiv r1.2) (b1.2.1 - (1000000 * (b1.1 - 1)))) (min j1 b1.2.1)) (by'.getD (Int.toNat (b1.2.2.tmod ((by'.length : Nat) : Int))) default) W r3 e4⟩, rngI64 g18, trivial⟩ ?_
        clear S; intro E a w S
        obtain ⟨g19, h⟩ := grd_some h
        refine sym_last lay_ok mixed [] [1, 2, 4, 5, 12, 21, 22] [0] (⟨[(1, .v (.int .i64 (b1.1 - 1))), (2, .v (.int .i64 (b1.2.1 - r3))), (4, .sl 2), (5, .own 0 0), (12, .v (.int .i64 alcohol)), (21, .v (.int .i64 d)), (22, .v (.int .i64 b1.2.2))], ⟨[(0, .blk 25 [.sl 0, .sl 1])], (wormtublaw04_ground_R c by'), []⟩⟩) [.rng .i64 (b1.1 - 1)] S (by kernel_rfl) (by kernel_rfl) (by kernel_rfl) ⟨rngI64 g19, trivial⟩ ?_
        clear S; intro E a w S
        refine out_block_normal ?_
        refine out_then_normal ?_
        obtain ⟨g20, h⟩ := grd_some h
        refine sym_last lay_ok mixed [] [1, 2, 4, 5, 12, 21, 22] [0] (⟨[(1, .v (.int .i64 (b1.1 - 1))), (2, .v (.int .i64 (b1.2.1 - r3))), (4, .sl 2), (5, .own 0 0), (12, .v (.int .i64 alcohol)), (21, .v (.int .i64 d)), (22, .v (.int .i64 (b1.2.2 + 1)))], ⟨[(0, .blk 25 [.sl 0, .sl 1])], (wormtublaw04_ground_R c by'), []⟩⟩) [.rng .i64 (b1.2.2 + 1)] S (by kernel_rfl) (by kernel_rfl) (by kernel_rfl) ⟨rngI64 g20, trivial⟩ ?_
        clear S; intro E a w S
        refine out_then_normal ?_
        exact ih ((b1.1 - 1), (b1.2.1 - r3), (b1.2.2 + 1)) _ _ _ h (St.cast (P := Go.Proofs.Try.prog) [] [] [1, 2, 4, 5, 12, 21, 22] [0] [0, 1, 2] _ [] (by kernel_rfl) trivial S)
    · have h := bif_f hb1 h
      refine wp_exit ?_
      refine out_then_exit ?_
      refine out_then_exit ?_
      refine out_block_here ?_
      refine out_then_normal ?_
      have hr := Option.some.inj h
      subst hr
      exact ⟨_, b1.2.1, hp1, St.cast (P := Go.Proofs.Try.prog) [] [] [2, 12] [] [0, 1, 2] _ [] (by kernel_rfl) trivial S⟩
  clear e1 S
  rintro a w ⟨E, x1, h, S⟩
  rw [wormtublaw04_ground_k1] at h
  refine out_then_normal ?_
  obtain ⟨g21, h⟩ := grd_some h
  refine sym_seq lay_ok mixed [] [10, 11] [] (⟨[(10, .v (.int .i64 (alcohol - x1))), (11, .v (.bool true))], ⟨[], (wormtublaw04_ground_R c by'), []⟩⟩) [.rng .i64 (alcohol - x1)] S (by kernel_rfl) (by kernel_rfl) (by kernel_rfl) ⟨rngI64 g21, trivial⟩ ?_
  clear S; intro E a w S
  refine wp_ret ?_
  have h := Option.some.inj h
  subst h
  exact sym_ret lay_ok [.v (.int .i64 (alcohol - x1)), .v (.bool true)] (by kernel_rfl) rfl S ⟨rfl, S.below rfl⟩
end Go.Proofs.Ytnfahoomoelmcaa
