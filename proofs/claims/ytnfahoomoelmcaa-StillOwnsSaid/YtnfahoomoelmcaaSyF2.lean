/- Models and walks, printed by program. -/
import Derived.Test.YtnfahoomoelmcaaSyS
namespace Go.Proofs.Ytnfahoomoelmcaa
open Go.RowKit Go.Proofs.Try

def wormtublaw04_long_R (c : MCurve) (amounts : List Int) : List (Nat × Q) := [(0, ⟨c.liquid.length, 1, fun i => [.int .i64 (c.liquid.getD i default)]⟩), (1, ⟨c.vapour.length, 2, fun i => [.int .i64 ((c.vapour.getD i default).lo), .int .i64 ((c.vapour.getD i default).hi)]⟩), (2, ⟨amounts.length, 1, fun i => [.int .i64 (amounts.getD i default)]⟩)]
def wormtublaw04_long (c : MCurve) (amounts : List Int) : Option Bool :=
some ((decide (40 < ((c.liquid.length : Nat) : Int)) || decide (40 < ((c.vapour.length : Nat) : Int))) || decide (70 < ((amounts.length : Nat) : Int)))
set_option maxRecDepth 100000 in
set_option maxHeartbeats 4000000 in
theorem wormtublaw04_long_ok (c : MCurve) (amounts : List Int) (W : World) (A0 : Option Addr) (c0 : Nat) (h0 : c.liquid.length ≤ c0) (s0 : SlAt W A0 c.liquid.length 1 fun i => [.int .i64 (c.liquid.getD i default)]) (A1 : Option Addr) (c1 : Nat) (h1 : c.vapour.length ≤ c1) (s1 : SlAt W A1 c.vapour.length 2 fun i => [.int .i64 ((c.vapour.getD i default).lo), .int .i64 ((c.vapour.getD i default).hi)]) (A2 : Option Addr) (c2 : Nat) (h2 : amounts.length ≤ c2) (s2 : SlAt W A2 amounts.length 1 fun i => [.int .i64 (amounts.getD i default)]) (res : Bool) (h : wormtublaw04_long c amounts = some res) :
    Calls Go.Proofs.Try.prog 16 #[.agg #[.slice A0 c.liquid.length c0, .slice A1 c.vapour.length c1], .slice A2 amounts.length c2] W fun e w' => e = .returned (.bool res) ∧ Below W.heap.size W w' := by
  refine sym_call (f := 16) (fn := Go.Proofs.Try.f16) (c := Go.Proofs.Try.f16.body.get rfl) Go.Proofs.Try.func16 rfl [.agg [.sl 0, .sl 1], .sl 2] (wormtublaw04_long_R c amounts) [] (envOf [(0, ⟨A0, c.liquid.length, c0, 1⟩), (1, ⟨A1, c.vapour.length, c1, 2⟩), (2, ⟨A2, amounts.length, c2, 1⟩)]) allR (fun _ _ => rfl) (by kernel_rfl) (envOf_one trivial) ⟨s0.rd h0, s1.rd h1, s2.rd h2, trivial⟩ (AllRR.all _ _) trivial fun E a w S => ?_
  rw [wormtublaw04_long] at h
  refine sym_seq lay_ok mixed [(0, { g := 0 })] [1, 2] [0] (⟨[(1, .sl 2), (2, .own 0 0)], ⟨[(0, .blk 25 [.sl 0, .sl 1])], (wormtublaw04_long_R c amounts), []⟩⟩) [] S (by kernel_rfl) (by kernel_rfl) (by kernel_rfl) trivial ?_
  clear S; intro E a w S
  refine sym_seq lay_ok mixed [(5, { og := true }), (6, { og := true }), (7, { og := true }), (8, { og := true }), (9, { pk := true }), (11, { og := true }), (12, { og := true }), (13, { og := true }), (14, { pk := true })] [4] [] (⟨[(4, .v (.bool ((decide (40 < ((c.liquid.length : Nat) : Int)) || decide (40 < ((c.vapour.length : Nat) : Int))) || decide (70 < ((amounts.length : Nat) : Int)))))], ⟨[], (wormtublaw04_long_R c amounts), []⟩⟩) [.imp (!(decide (40 < ((c.liquid.length : Nat) : Int)))) (!(decide (40 < ((c.liquid.length : Nat) : Int)))), .imp (!(decide (40 < ((c.liquid.length : Nat) : Int)))) (!(decide (40 < ((c.liquid.length : Nat) : Int)))), .imp (!(decide (40 < ((c.liquid.length : Nat) : Int)))) (!(decide (40 < ((c.liquid.length : Nat) : Int)))), .imp (!(decide (40 < ((c.liquid.length : Nat) : Int)))) (!(decide (40 < ((c.liquid.length : Nat) : Int)))), .imp (!(decide (40 < ((c.liquid.length : Nat) : Int)) || decide (40 < ((c.vapour.length : Nat) : Int)))) (!(decide (40 < ((c.liquid.length : Nat) : Int)) || decide (40 < ((c.vapour.length : Nat) : Int)))), .imp (!(decide (40 < ((c.liquid.length : Nat) : Int)) || decide (40 < ((c.vapour.length : Nat) : Int)))) (!(decide (40 < ((c.liquid.length : Nat) : Int)) || decide (40 < ((c.vapour.length : Nat) : Int)))), .imp (!(decide (40 < ((c.liquid.length : Nat) : Int)) || decide (40 < ((c.vapour.length : Nat) : Int)))) (!(decide (40 < ((c.liquid.length : Nat) : Int)) || decide (40 < ((c.vapour.length : Nat) : Int))))] S (by kernel_rfl) (by kernel_rfl) (by kernel_rfl) ⟨fun h => h, fun h => h, fun h => h, fun h => h, fun h => h, fun h => h, fun h => h, trivial⟩ ?_
  clear S; intro E a w S
  refine wp_ret ?_
  have h := Option.some.inj h
  subst h
  exact sym_ret lay_ok [.v (.bool ((decide (40 < ((c.liquid.length : Nat) : Int)) || decide (40 < ((c.vapour.length : Nat) : Int))) || decide (70 < ((amounts.length : Nat) : Int))))] (by kernel_rfl) rfl S ⟨rfl, S.below rfl⟩
def wormtublaw04_sample  : Option (MCurve × MPot) :=
some ((MCurve.mk ([0, 1000, 5000, 10000]) ([(MSpan.mk 0 0), (MSpan.mk 5000 5200), (MSpan.mk 8000 8100), (MSpan.mk 10000 10000)])), (MPot.mk 10000 (MSpan.mk 1000 1000)))
set_option maxRecDepth 100000 in
set_option maxHeartbeats 4000000 in
theorem wormtublaw04_sample_ok  (W : World)  (res : MCurve × MPot) (h : wormtublaw04_sample  = some res) :
    Calls Go.Proofs.Try.prog 38 #[] W fun e w' => ∃ v : Nat → Value, e = .returned (.tuple #[.agg #[v 0, v 1], .agg #[.int .i64 res.2.volume, .int .i64 res.2.alcohol.lo, .int .i64 res.2.alcohol.hi]]) ∧ Below W.heap.size W w' ∧ (∀ i, (v i).oneCell' = true) ∧ HeldIn (fun k => W.heap.size ≤ k) w' (SlicesAre 0 [⟨res.1.liquid.length, 1, fun i => [.int .i64 (res.1.liquid.getD i default)]⟩, ⟨res.1.vapour.length, 2, fun i => [.int .i64 ((res.1.vapour.getD i default).lo), .int .i64 ((res.1.vapour.getD i default).hi)]⟩] v) := by
  refine sym_call (f := 38) (fn := Go.Proofs.Try.f38) (c := Go.Proofs.Try.f38.body.get rfl) Go.Proofs.Try.func38 rfl [] [] [] (envOf []) allR (fun _ _ => rfl) (by kernel_rfl) (envOf_one trivial) trivial (AllRR.all _ _) trivial fun E a w S => ?_
  rw [wormtublaw04_sample] at h
  refine sym_seq lay_ok mixed [(0, { g := 0 }), (1, { g := 1 })] [0, 1] [0, 1] (⟨[(0, .own 0 0), (1, .own 1 0)], ⟨[(0, .blk 25 [.v (.slice none 0 0), .v (.slice none 0 0)]), (1, .blk 29 [.v (.int .i64 0), .v (.int .i64 0), .v (.int .i64 0)])], [], []⟩⟩) [] S (by kernel_rfl) (by kernel_rfl) (by kernel_rfl) trivial ?_
  clear S; intro E a w S
  refine sym_seq lay_ok mixed [(0, { g := 2 }), (5, { g := 3 }), (7, { g := 4 })] [0, 1, 2] [0, 1, 2, 3, 4] (⟨[(0, .own 0 0), (1, .own 1 0), (2, .own 4 0)], ⟨[(0, .blk 25 [.v (.slice none 0 0), .v (.slice none 0 0)]), (1, .blk 29 [.v (.int .i64 0), .v (.int .i64 0), .v (.int .i64 0)]), (2, .blk 3 [.v (.int .i64 0), .v (.int .i64 1000), .v (.int .i64 5000), .v (.int .i64 10000)]), (3, .blk 27 [.v (.int .i64 0), .v (.int .i64 0), .v (.int .i64 5000), .v (.int .i64 5200), .v (.int .i64 8000), .v (.int .i64 8100), .v (.int .i64 10000), .v (.int .i64 10000)]), (4, .blk 25 [.row 2 0 4 4, .row 3 0 4 4])], [], []⟩⟩) [] S (by kernel_rfl) (by kernel_rfl) (by kernel_rfl) trivial ?_
  clear S; intro E a w S
  refine sym_seq lay_ok mixed [] [0, 1] [0, 1, 2, 3] (⟨[(0, .own 0 0), (1, .own 1 0)], ⟨[(0, .blk 25 [.row 2 0 4 4, .row 3 0 4 4]), (1, .blk 29 [.v (.int .i64 10000), .v (.int .i64 1000), .v (.int .i64 1000)]), (2, .blk 3 [.v (.int .i64 0), .v (.int .i64 1000), .v (.int .i64 5000), .v (.int .i64 10000)]), (3, .blk 27 [.v (.int .i64 0), .v (.int .i64 0), .v (.int .i64 5000), .v (.int .i64 5200), .v (.int .i64 8000), .v (.int .i64 8100), .v (.int .i64 10000), .v (.int .i64 10000)])], [], []⟩⟩) [] S (by kernel_rfl) (by kernel_rfl) (by kernel_rfl) trivial ?_
  clear S; intro E a w S
  refine wp_ret ?_
  have h := Option.some.inj h
  subst h
  exact sym_ret lay_ok [.agg [.row 2 0 4 4, .row 3 0 4 4], .agg [.v (.int .i64 10000), .v (.int .i64 1000), .v (.int .i64 1000)]] (by kernel_rfl) rfl S ⟨vfun [.slice (some ⟨E.ρ 2, 0, none⟩) 4 4, .slice (some ⟨E.ρ 3, 0, none⟩) 4 4], rfl, S.below rfl, vfun_one [.slice (some ⟨E.ρ 2, 0, none⟩) 4 4, .slice (some ⟨E.ρ 3, 0, none⟩) 4 4] ⟨rfl, rfl, trivial⟩, (((S.own_blk (g := 2) rfl rfl).imp fun w hb => ⟨_, _, rfl, Nat.le_refl _, SlAt.of_blk hb (lit_get ⟨⟨⟨⟨trivial, rfl⟩, rfl⟩, rfl⟩, rfl⟩)⟩).and (((S.own_blk (g := 3) rfl rfl).imp fun w hb => ⟨_, _, rfl, Nat.le_refl _, SlAt.of_blk hb (lit_get ⟨⟨⟨⟨trivial, rfl⟩, rfl⟩, rfl⟩, rfl⟩)⟩).and (HeldIn.true fun _ => trivial)))⟩
def still_pot_valid (p : MPot) : Option Bool :=
((bif (decide (0 ≤ p.volume) && decide (p.volume ≤ 1073741824)) then still_span_covers (MSpan.mk 0 p.volume) (MSpan.mk p.alcohol.lo p.alcohol.hi) else some default)).bind fun (r1 : Bool) =>
some ((decide (0 ≤ p.volume) && decide (p.volume ≤ 1073741824)) && r1)
set_option maxRecDepth 100000 in
set_option maxHeartbeats 4000000 in
theorem still_pot_valid_ok (p : MPot) (W : World)  (res : Bool) (h : still_pot_valid p = some res) :
    Calls Go.Proofs.Try.prog 70 #[.agg #[.int .i64 p.volume, .int .i64 p.alcohol.lo, .int .i64 p.alcohol.hi]] W fun e w' => e = .returned (.bool res) ∧ Below W.heap.size W w' := by
  refine sym_call (f := 70) (fn := Go.Proofs.Try.f70) (c := Go.Proofs.Try.f70.body.get rfl) Go.Proofs.Try.func70 rfl [.agg [.v (.int .i64 p.volume), .v (.int .i64 p.alcohol.lo), .v (.int .i64 p.alcohol.hi)]] [] [] (envOf []) allR (fun _ _ => rfl) (by kernel_rfl) (envOf_one trivial) trivial (AllRR.all _ _) trivial fun E a w S => ?_
  rw [still_pot_valid] at h
  refine sym_seq lay_ok mixed [(0, { g := 0 })] [1] [0] (⟨[(1, .own 0 0)], ⟨[(0, .blk 90 [.v (.int .i64 p.volume), .v (.int .i64 p.alcohol.lo), .v (.int .i64 p.alcohol.hi)])], [], []⟩⟩) [] S (by kernel_rfl) (by kernel_rfl) (by kernel_rfl) trivial ?_
  clear S; intro E a w S
  obtain ⟨r1, e1, h⟩ := bind_some h
  refine sym_seq lay_ok mixed [(4, { og := true }), (5, { og := true }), (6, { og := true }), (7, { pk := true }), (9, { og := true }), (10, { og := true }), (11, { og := true }), (12, { og := true }), (13, { og := true }), (14, { og := true, res := .v (.bool r1) }), (15, { pk := true })] [2] [] (⟨[(2, .v (.bool ((decide (0 ≤ p.volume) && decide (p.volume ≤ 1073741824)) && r1)))], ⟨[], [], []⟩⟩) [.imp (decide (0 ≤ p.volume)) (decide (0 ≤ p.volume)), .imp (decide (0 ≤ p.volume)) (decide (0 ≤ p.volume)), .imp (decide (0 ≤ p.volume)) (decide (0 ≤ p.volume)), .imp (decide (0 ≤ p.volume) && decide (p.volume ≤ 1073741824)) (decide (0 ≤ p.volume) && decide (p.volume ≤ 1073741824)), .imp (decide (0 ≤ p.volume) && decide (p.volume ≤ 1073741824)) (decide (0 ≤ p.volume) && decide (p.volume ≤ 1073741824)), .imp (decide (0 ≤ p.volume) && decide (p.volume ≤ 1073741824)) (decide (0 ≤ p.volume) && decide (p.volume ≤ 1073741824)), .imp (decide (0 ≤ p.volume) && decide (p.volume ≤ 1073741824)) (decide (0 ≤ p.volume) && decide (p.volume ≤ 1073741824)), .imp (decide (0 ≤ p.volume) && decide (p.volume ≤ 1073741824)) (decide (0 ≤ p.volume) && decide (p.volume ≤ 1073741824)), .when (decide (0 ≤ p.volume) && decide (p.volume ≤ 1073741824)) (.call ⟨[], [], []⟩ 46 [.agg [.v (.int .i64 0), .v (.int .i64 p.volume)], .agg [.v (.int .i64 p.alcohol.lo), .v (.int .i64 p.alcohol.hi)]] (.v (.bool r1))), .imp (decide (0 ≤ p.volume) && decide (p.volume ≤ 1073741824)) (decide (0 ≤ p.volume) && decide (p.volume ≤ 1073741824))] S (by kernel_rfl) (by kernel_rfl) (by kernel_rfl) ⟨fun h => h, fun h => h, fun h => h, fun h => h, fun h => h, fun h => h, fun h => h, fun h => h, fun hW => ⟨enters_46, fun _ W _ _ => still_span_covers_ok (MSpan.mk 0 p.volume) (MSpan.mk p.alcohol.lo p.alcohol.hi) W r1 (bif_t hW e1)⟩, fun h => h, trivial⟩ ?_
  clear S; intro E a w S
  refine wp_ret ?_
  have h := Option.some.inj h
  subst h
  exact sym_ret lay_ok [.v (.bool ((decide (0 ≤ p.volume) && decide (p.volume ≤ 1073741824)) && r1))] (by kernel_rfl) rfl S ⟨rfl, S.below rfl⟩
def still_check_R (c : MCurve) (amounts : List Int) : List (Nat × Q) := [(0, ⟨c.liquid.length, 1, fun i => [.int .i64 (c.liquid.getD i default)]⟩), (1, ⟨c.vapour.length, 2, fun i => [.int .i64 ((c.vapour.getD i default).lo), .int .i64 ((c.vapour.getD i default).hi)]⟩), (2, ⟨amounts.length, 1, fun i => [.int .i64 (amounts.getD i default)]⟩)]
def still_check (fuel : Nat) (c : MCurve) (p : MPot) (amounts : List Int) : Option Int :=
(bif decide (64 < ((amounts.length : Nat) : Int)) then
(some 3)
else
((still_validCurve fuel c).bind fun (r1 : Bool) =>
((bif (!(!r1)) then still_pot_valid (MPot.mk p.volume (MSpan.mk p.alcohol.lo p.alcohol.hi)) else some default)).bind fun (r2 : Bool) =>
(bif ((!r1) || (!r2)) then
(some 1)
else
(some 0))))
set_option maxRecDepth 100000 in
set_option maxHeartbeats 4000000 in
theorem still_check_ok (fuel : Nat) (c : MCurve) (p : MPot) (amounts : List Int) (W : World) (A0 : Option Addr) (c0 : Nat) (h0 : c.liquid.length ≤ c0) (s0 : SlAt W A0 c.liquid.length 1 fun i => [.int .i64 (c.liquid.getD i default)]) (A1 : Option Addr) (c1 : Nat) (h1 : c.vapour.length ≤ c1) (s1 : SlAt W A1 c.vapour.length 2 fun i => [.int .i64 ((c.vapour.getD i default).lo), .int .i64 ((c.vapour.getD i default).hi)]) (A2 : Option Addr) (c2 : Nat) (h2 : amounts.length ≤ c2) (s2 : SlAt W A2 amounts.length 1 fun i => [.int .i64 (amounts.getD i default)]) (res : Int) (h : still_check fuel c p amounts = some res) :
    Calls Go.Proofs.Try.prog 53 #[.agg #[.slice A0 c.liquid.length c0, .slice A1 c.vapour.length c1], .agg #[.int .i64 p.volume, .int .i64 p.alcohol.lo, .int .i64 p.alcohol.hi], .slice A2 amounts.length c2] W fun e w' => e = .returned (.int .i64 res) ∧ Below W.heap.size W w' := by
  refine sym_call (f := 53) (fn := Go.Proofs.Try.f53) (c := Go.Proofs.Try.f53.body.get rfl) Go.Proofs.Try.func53 rfl [.agg [.sl 0, .sl 1], .agg [.v (.int .i64 p.volume), .v (.int .i64 p.alcohol.lo), .v (.int .i64 p.alcohol.hi)], .sl 2] (still_check_R c amounts) [] (envOf [(0, ⟨A0, c.liquid.length, c0, 1⟩), (1, ⟨A1, c.vapour.length, c1, 2⟩), (2, ⟨A2, amounts.length, c2, 1⟩)]) allR (fun _ _ => rfl) (by kernel_rfl) (envOf_one trivial) ⟨s0.rd h0, s1.rd h1, s2.rd h2, trivial⟩ (AllRR.all _ _) trivial fun E a w S => ?_
  rw [still_check] at h
  refine sym_seq lay_ok mixed [(0, { g := 0 }), (1, { g := 1 })] [2, 3, 4] [0, 1] (⟨[(2, .sl 2), (3, .own 0 0), (4, .own 1 0)], ⟨[(0, .blk 25 [.sl 0, .sl 1]), (1, .blk 29 [.v (.int .i64 p.volume), .v (.int .i64 p.alcohol.lo), .v (.int .i64 p.alcohol.hi)])], (still_check_R c amounts), []⟩⟩) [] S (by kernel_rfl) (by kernel_rfl) (by kernel_rfl) trivial ?_
  clear S; intro E a w S
  refine wp_seq ?_
  refine sym_seq lay_ok mixed [] [3, 4, 9] [0, 1] (⟨[(3, .own 0 0), (4, .own 1 0), (9, .v (.bool (decide (64 < ((amounts.length : Nat) : Int)))))], ⟨[(0, .blk 25 [.sl 0, .sl 1]), (1, .blk 29 [.v (.int .i64 p.volume), .v (.int .i64 p.alcohol.lo), .v (.int .i64 p.alcohol.hi)])], (still_check_R c amounts), []⟩⟩) [] S (by kernel_rfl) (by kernel_rfl) (by kernel_rfl) trivial ?_
  clear S; intro E a w S
  refine sym_if_last (b := decide (64 < ((amounts.length : Nat) : Int))) S rfl (fun hb1 => ?_) (fun hb1 => ?_)
  · have h := bif_t hb1 h
    refine sym_seq lay_ok mixed [] [6] [] (⟨[(6, .v (.int .i64 3))], ⟨[], (still_check_R c amounts), []⟩⟩) [] S (by kernel_rfl) (by kernel_rfl) (by kernel_rfl) trivial ?_
    clear S; intro E a w S
    refine wp_ret ?_
    refine out_then_ret ?_
    have h := Option.some.inj h
    subst h
    exact sym_ret lay_ok [.v (.int .i64 3)] (by kernel_rfl) rfl S ⟨rfl, S.below rfl⟩
  · have h := bif_f hb1 h
    refine wp_skip ?_
    refine out_then_normal ?_
    refine wp_seq ?_
    obtain ⟨r1, e1, h⟩ := bind_some h
    obtain ⟨r2, e2, h⟩ := bind_some h
    refine sym_seq lay_ok mixed [(1, { res := .v (.bool r1) }), (4, { og := true }), (5, { og := true, res := .v (.bool r2) }), (6, { og := true }), (7, { pk := true })] [17] [] (⟨[(17, .v (.bool ((!r1) || (!r2))))], ⟨[], (still_check_R c amounts), []⟩⟩) [.call ⟨[], (still_check_R c amounts), []⟩ 44 [.agg [.sl 0, .sl 1]] (.v (.bool r1)), .imp (!(!r1)) (!(!r1)), .when (!(!r1)) (.call ⟨[], (still_check_R c amounts), []⟩ 70 [.agg [.v (.int .i64 p.volume), .v (.int .i64 p.alcohol.lo), .v (.int .i64 p.alcohol.hi)]] (.v (.bool r2))), .imp (!(!r1)) (!(!r1)), .imp (!(!r1)) (!(!r1))] S (by kernel_rfl) (by kernel_rfl) (by kernel_rfl) ⟨⟨enters_44, fun E W _ hm => by obtain ⟨A0, c0, q0, l0, s0, _⟩ := Mem.sl hm (s := 0) rfl; obtain ⟨A1, c1, q1, l1, s1, _⟩ := Mem.sl hm (s := 1) rfl; simp only [SV.vals, SV.val, q0, q1]; exact still_validCurve_ok fuel c W A0 c0 l0 s0 A1 c1 l1 s1 r1 e1⟩, fun h => h, fun hW => ⟨enters_70, fun _ W _ _ => still_pot_valid_ok (MPot.mk p.volume (MSpan.mk p.alcohol.lo p.alcohol.hi)) W r2 (bif_t hW e2)⟩, fun h => h, fun h => h, trivial⟩ ?_
    clear S; intro E a w S
    refine sym_if_last (b := ((!r1) || (!r2))) S rfl (fun hb2 => ?_) (fun hb2 => ?_)
    · have h := bif_t hb2 h
      refine sym_seq lay_ok mixed [] [6] [] (⟨[(6, .v (.int .i64 1))], ⟨[], (still_check_R c amounts), []⟩⟩) [] S (by kernel_rfl) (by kernel_rfl) (by kernel_rfl) trivial ?_
      clear S; intro E a w S
      refine wp_ret ?_
      refine out_then_ret ?_
      have h := Option.some.inj h
      subst h
      exact sym_ret lay_ok [.v (.int .i64 1)] (by kernel_rfl) rfl S ⟨rfl, S.below rfl⟩
    · have h := bif_f hb2 h
      refine wp_skip ?_
      refine out_then_normal ?_
      refine sym_seq lay_ok mixed [] [6] [] (⟨[(6, .v (.int .i64 0))], ⟨[], (still_check_R c amounts), []⟩⟩) [] S (by kernel_rfl) (by kernel_rfl) (by kernel_rfl) trivial ?_
      clear S; intro E a w S
      refine wp_ret ?_
      have h := Option.some.inj h
      subst h
      exact sym_ret lay_ok [.v (.int .i64 0)] (by kernel_rfl) rfl S ⟨rfl, S.below rfl⟩
def still_runs (all : Int) (each : Int) : Option Int :=
(bif (each == 0) then
(some (-1))
else
((still_down all each).bind fun (r1 : Int) =>
some r1))
set_option maxRecDepth 100000 in
set_option maxHeartbeats 4000000 in
theorem still_runs_ok (all : Int) (each : Int) (W : World)  (res : Int) (h : still_runs all each = some res) :
    Calls Go.Proofs.Try.prog 61 #[.int .i64 all, .int .i64 each] W fun e w' => e = .returned (.int .i64 res) ∧ Below W.heap.size W w' := by
  refine sym_call (f := 61) (fn := Go.Proofs.Try.f61) (c := Go.Proofs.Try.f61.body.get rfl) Go.Proofs.Try.func61 rfl [.v (.int .i64 all), .v (.int .i64 each)] [] [] (envOf []) allR (fun _ _ => rfl) (by kernel_rfl) (envOf_one trivial) trivial (AllRR.all _ _) trivial fun E a w S => ?_
  rw [still_runs] at h
  refine sym_seq lay_ok mixed [] [0, 1] [] (⟨[(0, .v (.int .i64 all)), (1, .v (.int .i64 each))], ⟨[], [], []⟩⟩) [] S (by kernel_rfl) (by kernel_rfl) (by kernel_rfl) trivial ?_
  clear S; intro E a w S
  refine wp_seq ?_
  refine sym_seq lay_ok mixed [] [0, 1, 6] [] (⟨[(0, .v (.int .i64 all)), (1, .v (.int .i64 each)), (6, .v (.bool (each == 0)))], ⟨[], [], []⟩⟩) [] S (by kernel_rfl) (by kernel_rfl) (by kernel_rfl) trivial ?_
  clear S; intro E a w S
  refine sym_if_last (b := (each == 0)) S rfl (fun hb1 => ?_) (fun hb1 => ?_)
  · have h := bif_t hb1 h
    refine sym_seq lay_ok mixed [] [4] [] (⟨[(4, .v (.int .i64 (-1)))], ⟨[], [], []⟩⟩) [] S (by kernel_rfl) (by kernel_rfl) (by kernel_rfl) trivial ?_
    clear S; intro E a w S
    refine wp_ret ?_
    refine out_then_ret ?_
    have h := Option.some.inj h
    subst h
    exact sym_ret lay_ok [.v (.int .i64 (-1))] (by kernel_rfl) rfl S ⟨rfl, S.below rfl⟩
  · have h := bif_f hb1 h
    refine wp_skip ?_
    refine out_then_normal ?_
    obtain ⟨r1, e1, h⟩ := bind_some h
    refine sym_seq lay_ok mixed [(2, { res := .v (.int .i64 r1) })] [4] [] (⟨[(4, .v (.int .i64 r1))], ⟨[], [], []⟩⟩) [.call ⟨[], [], []⟩ 68 [.v (.int .i64 all), .v (.int .i64 each)] (.v (.int .i64 r1))] S (by kernel_rfl) (by kernel_rfl) (by kernel_rfl) ⟨⟨enters_68, fun _ W _ _ => still_down_ok all each W r1 e1⟩, trivial⟩ ?_
    clear S; intro E a w S
    refine wp_ret ?_
    have h := Option.some.inj h
    subst h
    exact sym_ret lay_ok [.v (.int .i64 r1)] (by kernel_rfl) rfl S ⟨rfl, S.below rfl⟩
def still_Wear (thick : MSpan) (wear : MSpan) (least : Int) : Option (Int × Int × Int) :=
(still_span_covers (MSpan.mk 0 1073741824) thick).bind fun (r1 : Bool) =>
((bif (!(!r1)) then still_span_covers (MSpan.mk 0 1073741824) wear else some default)).bind fun (r2 : Bool) =>
(bif ((!r1) || (!r2)) then
(some (0, 0, 1))
else
((bif (decide (least < 0) || decide (1073741824 < least)) then
(some (0, 0, 2))
else
((bif decide (thick.lo < least) then
(some (0, 0, 12))
else
(grd (InI64 (thick.lo - least)) <|
(still_runs (thick.lo - least) wear.hi).bind fun (r3 : Int) =>
grd (InI64 (thick.hi - least)) <|
(still_runs (thick.hi - least) wear.lo).bind fun (r4 : Int) =>
some (r3, r4, 0)))))))
set_option maxRecDepth 100000 in
set_option maxHeartbeats 4000000 in
theorem still_Wear_ok (thick : MSpan) (wear : MSpan) (least : Int) (W : World)  (res : Int × Int × Int) (h : still_Wear thick wear least = some res) :
    Calls Go.Proofs.Try.prog 34 #[.agg #[.int .i64 thick.lo, .int .i64 thick.hi], .agg #[.int .i64 wear.lo, .int .i64 wear.hi], .int .i64 least] W fun e w' => e = .returned (.tuple #[.int .i64 res.1, .int .i64 res.2.1, .int .i64 res.2.2]) ∧ Below W.heap.size W w' := by
  refine sym_call (f := 34) (fn := Go.Proofs.Try.f34) (c := Go.Proofs.Try.f34.body.get rfl) Go.Proofs.Try.func34 rfl [.agg [.v (.int .i64 thick.lo), .v (.int .i64 thick.hi)], .agg [.v (.int .i64 wear.lo), .v (.int .i64 wear.hi)], .v (.int .i64 least)] [] [] (envOf []) allR (fun _ _ => rfl) (by kernel_rfl) (envOf_one trivial) trivial (AllRR.all _ _) trivial fun E a w S => ?_
  rw [still_Wear] at h
  refine sym_seq lay_ok mixed [(0, { g := 0 }), (1, { g := 1 })] [2, 3, 4] [0, 1] (⟨[(2, .v (.int .i64 least)), (3, .own 0 0), (4, .own 1 0)], ⟨[(0, .blk 27 [.v (.int .i64 thick.lo), .v (.int .i64 thick.hi)]), (1, .blk 27 [.v (.int .i64 wear.lo), .v (.int .i64 wear.hi)])], [], []⟩⟩) [] S (by kernel_rfl) (by kernel_rfl) (by kernel_rfl) trivial ?_
  clear S; intro E a w S
  refine sym_seq lay_ok mixed [(1, { g := 2 })] [2, 3, 4, 9] [0, 1, 2] (⟨[(2, .v (.int .i64 least)), (3, .own 0 0), (4, .own 1 0), (9, .own 2 0)], ⟨[(0, .blk 27 [.v (.int .i64 thick.lo), .v (.int .i64 thick.hi)]), (1, .blk 27 [.v (.int .i64 wear.lo), .v (.int .i64 wear.hi)]), (2, .blk 75 [.v (.int .i64 0), .v (.int .i64 1073741824)])], [], []⟩⟩) [] S (by kernel_rfl) (by kernel_rfl) (by kernel_rfl) trivial ?_
  clear S; intro E a w S
  refine wp_seq ?_
  obtain ⟨r1, e1, h⟩ := bind_some h
  obtain ⟨r2, e2, h⟩ := bind_some h
  refine sym_seq lay_ok mixed [(2, { res := .v (.bool r1) }), (5, { og := true }), (6, { og := true }), (7, { og := true, res := .v (.bool r2) }), (8, { og := true }), (9, { pk := true })] [2, 3, 4, 20] [0, 1] (⟨[(2, .v (.int .i64 least)), (3, .own 0 0), (4, .own 1 0), (20, .v (.bool ((!r1) || (!r2))))], ⟨[(0, .blk 27 [.v (.int .i64 thick.lo), .v (.int .i64 thick.hi)]), (1, .blk 27 [.v (.int .i64 wear.lo), .v (.int .i64 wear.hi)])], [], []⟩⟩) [.call ⟨[], [], []⟩ 46 [.agg [.v (.int .i64 0), .v (.int .i64 1073741824)], .agg [.v (.int .i64 thick.lo), .v (.int .i64 thick.hi)]] (.v (.bool r1)), .imp (!(!r1)) (!(!r1)), .imp (!(!r1)) (!(!r1)), .when (!(!r1)) (.call ⟨[], [], []⟩ 46 [.agg [.v (.int .i64 0), .v (.int .i64 1073741824)], .agg [.v (.int .i64 wear.lo), .v (.int .i64 wear.hi)]] (.v (.bool r2))), .imp (!(!r1)) (!(!r1)), .imp (!(!r1)) (!(!r1))] S (by kernel_rfl) (by kernel_rfl) (by kernel_rfl) ⟨⟨enters_46, fun _ W _ _ => still_span_covers_ok (MSpan.mk 0 1073741824) thick W r1 e1⟩, fun h => h, fun h => h, fun hW => ⟨enters_46, fun _ W _ _ => still_span_covers_ok (MSpan.mk 0 1073741824) wear W r2 (bif_t hW e2)⟩, fun h => h, fun h => h, trivial⟩ ?_
  clear S; intro E a w S
  refine sym_if_last (b := ((!r1) || (!r2))) S rfl (fun hb1 => ?_) (fun hb1 => ?_)
  · have h := bif_t hb1 h
    refine sym_seq lay_ok mixed [] [6, 7, 8] [] (⟨[(6, .v (.int .i64 0)), (7, .v (.int .i64 0)), (8, .v (.int .i64 1))], ⟨[], [], []⟩⟩) [] S (by kernel_rfl) (by kernel_rfl) (by kernel_rfl) trivial ?_
    clear S; intro E a w S
    refine wp_ret ?_
    refine out_then_ret ?_
    have h := Option.some.inj h
    subst h
    exact sym_ret lay_ok [.v (.int .i64 0), .v (.int .i64 0), .v (.int .i64 1)] (by kernel_rfl) rfl S ⟨rfl, S.below rfl⟩
  · have h := bif_f hb1 h
    refine wp_skip ?_
    refine out_then_normal ?_
    refine wp_seq ?_
    refine sym_seq lay_ok mixed [(3, { og := true }), (4, { og := true }), (5, { pk := true })] [2, 3, 4, 26] [0, 1] (⟨[(2, .v (.int .i64 least)), (3, .own 0 0), (4, .own 1 0), (26, .v (.bool (decide (least < 0) || decide (1073741824 < least))))], ⟨[(0, .blk 27 [.v (.int .i64 thick.lo), .v (.int .i64 thick.hi)]), (1, .blk 27 [.v (.int .i64 wear.lo), .v (.int .i64 wear.hi)])], [], []⟩⟩) [.imp (!(decide (least < 0))) (!(decide (least < 0))), .imp (!(decide (least < 0))) (!(decide (least < 0)))] S (by kernel_rfl) (by kernel_rfl) (by kernel_rfl) ⟨fun h => h, fun h => h, trivial⟩ ?_
    clear S; intro E a w S
    refine sym_if_last (b := (decide (least < 0) || decide (1073741824 < least))) S rfl (fun hb2 => ?_) (fun hb2 => ?_)
    · have h := bif_t hb2 h
      refine sym_seq lay_ok mixed [] [6, 7, 8] [] (⟨[(6, .v (.int .i64 0)), (7, .v (.int .i64 0)), (8, .v (.int .i64 2))], ⟨[], [], []⟩⟩) [] S (by kernel_rfl) (by kernel_rfl) (by kernel_rfl) trivial ?_
      clear S; intro E a w S
      refine wp_ret ?_
      refine out_then_ret ?_
      have h := Option.some.inj h
      subst h
      exact sym_ret lay_ok [.v (.int .i64 0), .v (.int .i64 0), .v (.int .i64 2)] (by kernel_rfl) rfl S ⟨rfl, S.below rfl⟩
    · have h := bif_f hb2 h
      refine wp_skip ?_
      refine out_then_normal ?_
      refine wp_seq ?_
      refine sym_seq lay_ok mixed [] [2, 3, 4, 30] [0, 1] (⟨[(2, .v (.int .i64 least)), (3, .own 0 0), (4, .own 1 0), (30, .v (.bool (decide (thick.lo < least))))], ⟨[(0, .blk 27 [.v (.int .i64 thick.lo), .v (.int .i64 thick.hi)]), (1, .blk 27 [.v (.int .i64 wear.lo), .v (.int .i64 wear.hi)])], [], []⟩⟩) [] S (by kernel_rfl) (by kernel_rfl) (by kernel_rfl) trivial ?_
      clear S; intro E a w S
      refine sym_if_last (b := decide (thick.lo < least)) S rfl (fun hb3 => ?_) (fun hb3 => ?_)
      · have h := bif_t hb3 h
        refine sym_seq lay_ok mixed [] [6, 7, 8] [] (⟨[(6, .v (.int .i64 0)), (7, .v (.int .i64 0)), (8, .v (.int .i64 12))], ⟨[], [], []⟩⟩) [] S (by kernel_rfl) (by kernel_rfl) (by kernel_rfl) trivial ?_
        clear S; intro E a w S
        refine wp_ret ?_
        refine out_then_ret ?_
        have h := Option.some.inj h
        subst h
        exact sym_ret lay_ok [.v (.int .i64 0), .v (.int .i64 0), .v (.int .i64 12)] (by kernel_rfl) rfl S ⟨rfl, S.below rfl⟩
      · have h := bif_f hb3 h
        refine wp_skip ?_
        refine out_then_normal ?_
        obtain ⟨g1, h⟩ := grd_some h
        obtain ⟨r3, e3, h⟩ := bind_some h
        obtain ⟨g2, h⟩ := grd_some h
        obtain ⟨r4, e4, h⟩ := bind_some h
        refine sym_seq lay_ok mixed [(6, { res := .v (.int .i64 r3) }), (13, { res := .v (.int .i64 r4) })] [6, 7, 8] [] (⟨[(6, .v (.int .i64 r3)), (7, .v (.int .i64 r4)), (8, .v (.int .i64 0))], ⟨[], [], []⟩⟩) [.rng .i64 (thick.lo - least), .call ⟨[], [], []⟩ 61 [.v (.int .i64 (thick.lo - least)), .v (.int .i64 wear.hi)] (.v (.int .i64 r3)), .rng .i64 (thick.hi - least), .call ⟨[], [], []⟩ 61 [.v (.int .i64 (thick.hi - least)), .v (.int .i64 wear.lo)] (.v (.int .i64 r4))] S (by kernel_rfl) (by kernel_rfl) (by kernel_rfl) ⟨rngI64 g1, ⟨enters_61, fun _ W _ _ => still_runs_ok (thick.lo - least) wear.hi W r3 e3⟩, rngI64 g2, ⟨enters_61, fun _ W _ _ => still_runs_ok (thick.hi - least) wear.lo W r4 e4⟩, trivial⟩ ?_
        clear S; intro E a w S
        refine wp_ret ?_
        have h := Option.some.inj h
        subst h
        exact sym_ret lay_ok [.v (.int .i64 r3), .v (.int .i64 r4), .v (.int .i64 0)] (by kernel_rfl) rfl S ⟨rfl, S.below rfl⟩
def still_Cycle_k1  (x1 : Int × Int) : Option (Int × Int × Int) :=
some (x1.2, x1.1, 0)
def still_Cycle_l1 (fresh : MSpan) (keep : MSpan) (limit : Int) : Nat → (Int × Int) → Option (Lp (Int × Int) (Int × Int × Int))
  | 0, _ => none
  | n + 1, b1 =>
    (bif decide (b1.2 ≤ limit) then
    (grd (InI64 (b1.2 + fresh.hi) ∧ InI64 ((b1.2 + fresh.hi) * keep.hi)) <|
    (still_up ((b1.2 + fresh.hi) * keep.hi) 1000).bind fun (r3 : Int) =>
    (bif decide (r3 ≤ b1.2) then
    (some (Lp.ret (b1.2, (-1), 0)))
    else
    (grd (InI64 (b1.1 + 1)) <|
    still_Cycle_l1 fresh keep limit n ((b1.1 + 1), r3))))
    else
    (some (Lp.done (b1.1, b1.2))))
def still_Cycle (fuel : Nat) (fresh : MSpan) (keep : MSpan) (start : Int) (limit : Int) : Option (Int × Int × Int) :=
(still_span_covers (MSpan.mk 0 1073741824) fresh).bind fun (r1 : Bool) =>
((bif (!(!r1)) then still_span_covers (MSpan.mk 0 999) keep else some default)).bind fun (r2 : Bool) =>
(bif ((!r1) || (!r2)) then
(some (0, 0, 1))
else
((bif (((decide (start < 0) || decide (1073741824 < start)) || decide (limit < 0)) || decide (1073741824 < limit)) then
(some (0, 0, 2))
else
((still_Cycle_l1 fresh keep limit fuel (0, start)).bind fun lr1 => lr1.go fun x1 => still_Cycle_k1 x1))))
set_option maxRecDepth 100000 in
set_option maxHeartbeats 4000000 in
theorem still_Cycle_ok (fuel : Nat) (fresh : MSpan) (keep : MSpan) (start : Int) (limit : Int) (W : World)  (res : Int × Int × Int) (h : still_Cycle fuel fresh keep start limit = some res) :
    Calls Go.Proofs.Try.prog 32 #[.agg #[.int .i64 fresh.lo, .int .i64 fresh.hi], .agg #[.int .i64 keep.lo, .int .i64 keep.hi], .int .i64 start, .int .i64 limit] W fun e w' => e = .returned (.tuple #[.int .i64 res.1, .int .i64 res.2.1, .int .i64 res.2.2]) ∧ Below W.heap.size W w' := by
  refine sym_call (f := 32) (fn := Go.Proofs.Try.f32) (c := Go.Proofs.Try.f32.body.get rfl) Go.Proofs.Try.func32 rfl [.agg [.v (.int .i64 fresh.lo), .v (.int .i64 fresh.hi)], .agg [.v (.int .i64 keep.lo), .v (.int .i64 keep.hi)], .v (.int .i64 start), .v (.int .i64 limit)] [] [] (envOf []) allR (fun _ _ => rfl) (by kernel_rfl) (envOf_one trivial) trivial (AllRR.all _ _) trivial fun E a w S => ?_
  rw [still_Cycle] at h
  refine sym_seq lay_ok mixed [(0, { g := 0 }), (1, { g := 1 })] [2, 3, 4, 5, 9] [0, 1] (⟨[(2, .v (.int .i64 start)), (3, .v (.int .i64 limit)), (4, .own 0 0), (5, .own 1 0), (9, .v (.int .i64 0))], ⟨[(0, .blk 27 [.v (.int .i64 fresh.lo), .v (.int .i64 fresh.hi)]), (1, .blk 27 [.v (.int .i64 keep.lo), .v (.int .i64 keep.hi)])], [], []⟩⟩) [] S (by kernel_rfl) (by kernel_rfl) (by kernel_rfl) trivial ?_
  clear S; intro E a w S
  refine sym_seq lay_ok mixed [(2, { g := 2 }), (3, { g := 3 })] [2, 3, 4, 5, 9, 11, 12] [0, 1, 2, 3] (⟨[(2, .v (.int .i64 start)), (3, .v (.int .i64 limit)), (4, .own 0 0), (5, .own 1 0), (9, .v (.int .i64 0)), (11, .own 2 0), (12, .own 3 0)], ⟨[(0, .blk 27 [.v (.int .i64 fresh.lo), .v (.int .i64 fresh.hi)]), (1, .blk 27 [.v (.int .i64 keep.lo), .v (.int .i64 keep.hi)]), (2, .blk 75 [.v (.int .i64 0), .v (.int .i64 1073741824)]), (3, .blk 75 [.v (.int .i64 0), .v (.int .i64 999)])], [], []⟩⟩) [] S (by kernel_rfl) (by kernel_rfl) (by kernel_rfl) trivial ?_
  clear S; intro E a w S
  refine wp_seq ?_
  obtain ⟨r1, e1, h⟩ := bind_some h
  obtain ⟨r2, e2, h⟩ := bind_some h
  refine sym_seq lay_ok mixed [(2, { res := .v (.bool r1) }), (5, { og := true }), (6, { og := true }), (7, { og := true, res := .v (.bool r2) }), (8, { og := true }), (9, { pk := true })] [2, 3, 4, 5, 9, 25] [0, 1] (⟨[(2, .v (.int .i64 start)), (3, .v (.int .i64 limit)), (4, .own 0 0), (5, .own 1 0), (9, .v (.int .i64 0)), (25, .v (.bool ((!r1) || (!r2))))], ⟨[(0, .blk 27 [.v (.int .i64 fresh.lo), .v (.int .i64 fresh.hi)]), (1, .blk 27 [.v (.int .i64 keep.lo), .v (.int .i64 keep.hi)])], [], []⟩⟩) [.call ⟨[], [], []⟩ 46 [.agg [.v (.int .i64 0), .v (.int .i64 1073741824)], .agg [.v (.int .i64 fresh.lo), .v (.int .i64 fresh.hi)]] (.v (.bool r1)), .imp (!(!r1)) (!(!r1)), .imp (!(!r1)) (!(!r1)), .when (!(!r1)) (.call ⟨[], [], []⟩ 46 [.agg [.v (.int .i64 0), .v (.int .i64 999)], .agg [.v (.int .i64 keep.lo), .v (.int .i64 keep.hi)]] (.v (.bool r2))), .imp (!(!r1)) (!(!r1)), .imp (!(!r1)) (!(!r1))] S (by kernel_rfl) (by kernel_rfl) (by kernel_rfl) ⟨⟨enters_46, fun _ W _ _ => still_span_covers_ok (MSpan.mk 0 1073741824) fresh W r1 e1⟩, fun h => h, fun h => h, fun hW => ⟨enters_46, fun _ W _ _ => still_span_covers_ok (MSpan.mk 0 999) keep W r2 (bif_t hW e2)⟩, fun h => h, fun h => h, trivial⟩ ?_
  clear S; intro E a w S
  refine sym_if_last (b := ((!r1) || (!r2))) S rfl (fun hb1 => ?_) (fun hb1 => ?_)
  · have h := bif_t hb1 h
    refine sym_seq lay_ok mixed [] [9, 8, 10] [] (⟨[(9, .v (.int .i64 0)), (8, .v (.int .i64 0)), (10, .v (.int .i64 1))], ⟨[], [], []⟩⟩) [] S (by kernel_rfl) (by kernel_rfl) (by kernel_rfl) trivial ?_
    clear S; intro E a w S
    refine wp_ret ?_
    refine out_then_ret ?_
    have h := Option.some.inj h
    subst h
    exact sym_ret lay_ok [.v (.int .i64 0), .v (.int .i64 0), .v (.int .i64 1)] (by kernel_rfl) rfl S ⟨rfl, S.below rfl⟩
  · have h := bif_f hb1 h
    refine wp_skip ?_
    refine out_then_normal ?_
    refine wp_seq ?_
    refine sym_seq lay_ok mixed [(3, { og := true }), (4, { og := true }), (5, { pk := true }), (7, { og := true }), (8, { og := true }), (9, { pk := true }), (11, { og := true }), (12, { og := true }), (13, { pk := true })] [2, 3, 4, 5, 9, 39] [0, 1] (⟨[(2, .v (.int .i64 start)), (3, .v (.int .i64 limit)), (4, .own 0 0), (5, .own 1 0), (9, .v (.int .i64 0)), (39, .v (.bool (((decide (start < 0) || decide (1073741824 < start)) || decide (limit < 0)) || decide (1073741824 < limit))))], ⟨[(0, .blk 27 [.v (.int .i64 fresh.lo), .v (.int .i64 fresh.hi)]), (1, .blk 27 [.v (.int .i64 keep.lo), .v (.int .i64 keep.hi)])], [], []⟩⟩) [.imp (!(decide (start < 0))) (!(decide (start < 0))), .imp (!(decide (start < 0))) (!(decide (start < 0))), .imp (!(decide (start < 0) || decide (1073741824 < start))) (!(decide (start < 0) || decide (1073741824 < start))), .imp (!(decide (start < 0) || decide (1073741824 < start))) (!(decide (start < 0) || decide (1073741824 < start))), .imp (!((decide (start < 0) || decide (1073741824 < start)) || decide (limit < 0))) (!((decide (start < 0) || decide (1073741824 < start)) || decide (limit < 0))), .imp (!((decide (start < 0) || decide (1073741824 < start)) || decide (limit < 0))) (!((decide (start < 0) || decide (1073741824 < start)) || decide (limit < 0)))] S (by kernel_rfl) (by kernel_rfl) (by kernel_rfl) ⟨fun h => h, fun h => h, fun h => h, fun h => h, fun h => h, fun h => h, trivial⟩ ?_
    clear S; intro E a w S
    refine sym_if_last (b := (((decide (start < 0) || decide (1073741824 < start)) || decide (limit < 0)) || decide (1073741824 < limit))) S rfl (fun hb2 => ?_) (fun hb2 => ?_)
    · have h := bif_t hb2 h
      refine sym_seq lay_ok mixed [] [9, 8, 10] [] (⟨[(9, .v (.int .i64 0)), (8, .v (.int .i64 0)), (10, .v (.int .i64 2))], ⟨[], [], []⟩⟩) [] S (by kernel_rfl) (by kernel_rfl) (by kernel_rfl) trivial ?_
      clear S; intro E a w S
      refine wp_ret ?_
      refine out_then_ret ?_
      have h := Option.some.inj h
      subst h
      exact sym_ret lay_ok [.v (.int .i64 0), .v (.int .i64 0), .v (.int .i64 2)] (by kernel_rfl) rfl S ⟨rfl, S.below rfl⟩
    · have h := bif_f hb2 h
      refine wp_skip ?_
      refine out_then_normal ?_
      refine wp_seq ?_
      refine sym_seq lay_ok mixed [] [3, 4, 5, 9, 8] [0, 1] (⟨[(3, .v (.int .i64 limit)), (4, .own 0 0), (5, .own 1 0), (9, .v (.int .i64 0)), (8, .v (.int .i64 start))], ⟨[(0, .blk 27 [.v (.int .i64 fresh.lo), .v (.int .i64 fresh.hi)]), (1, .blk 27 [.v (.int .i64 keep.lo), .v (.int .i64 keep.hi)])], [], []⟩⟩) [] S (by kernel_rfl) (by kernel_rfl) (by kernel_rfl) trivial ?_
      clear S; intro E a w S
      obtain ⟨lr1, e3, hp1⟩ := bind_some h
      clear h
      refine sym_block_last (G := fun a w => ∃ E, ∃ x1 : Int × Int, still_Cycle_k1 x1 = some res ∧ St ⟨W, noC, Go.Proofs.Try.f32.ntmps, [], allR, noρ, (envOf []).sl, (envOf []).x⟩ (⟨[(9, .v (.int .i64 x1.1)), (8, .v (.int .i64 x1.2))], ⟨[], [], []⟩⟩) E a w) ?_ ?_
      · refine wp_loop_rounds fuel ?_
        refine sym_rounds (F := fun n b1 => still_Cycle_l1 fresh keep limit n b1 = some lr1) (H := fun b1 => ⟨[(3, .v (.int .i64 limit)), (4, .own 0 0), (5, .own 1 0), (9, .v (.int .i64 b1.1)), (8, .v (.int .i64 b1.2))], ⟨[(0, .blk 27 [.v (.int .i64 fresh.lo), .v (.int .i64 fresh.hi)]), (1, .blk 27 [.v (.int .i64 keep.lo), .v (.int .i64 keep.hi)])], [], []⟩⟩) (0, start) (fun b hb => by have hb : none = some lr1 := hb; cases hb) ?_ _ _ _ _ e3 (St.cast (P := Go.Proofs.Try.prog) [] [] [3, 4, 5, 9, 8] [0, 1] [] _ [] (by kernel_rfl) trivial S)
        clear e3 S
        intro n b1 E a w h ih S
        rw [still_Cycle_l1] at h
        refine wp_seq ?_
        refine sym_seq lay_ok mixed [] [3, 4, 5, 9, 8, 43] [0, 1] (⟨[(3, .v (.int .i64 limit)), (4, .own 0 0), (5, .own 1 0), (9, .v (.int .i64 b1.1)), (8, .v (.int .i64 b1.2)), (43, .v (.bool (decide (b1.2 ≤ limit))))], ⟨[(0, .blk 27 [.v (.int .i64 fresh.lo), .v (.int .i64 fresh.hi)]), (1, .blk 27 [.v (.int .i64 keep.lo), .v (.int .i64 keep.hi)])], [], []⟩⟩) [] S (by kernel_rfl) (by kernel_rfl) (by kernel_rfl) trivial ?_
        clear S; intro E a w S
        refine sym_if_last (b := decide (b1.2 ≤ limit)) S rfl (fun hb3 => ?_) (fun hb3 => ?_)
        · have h := bif_t hb3 h
          refine wp_skip ?_
          refine out_then_normal ?_
          refine wp_seq ?_
          refine wp_block ?_
          obtain ⟨⟨g1, g2⟩, h⟩ := grd_some h
          obtain ⟨r3, e4, h⟩ := bind_some h
          refine sym_seq lay_ok mixed [(7, { res := .v (.int .i64 r3) })] [3, 4, 5, 9, 8, 13] [0, 1] (⟨[(3, .v (.int .i64 limit)), (4, .own 0 0), (5, .own 1 0), (9, .v (.int .i64 b1.1)), (8, .v (.int .i64 b1.2)), (13, .v (.int .i64 r3))], ⟨[(0, .blk 27 [.v (.int .i64 fresh.lo), .v (.int .i64 fresh.hi)]), (1, .blk 27 [.v (.int .i64 keep.lo), .v (.int .i64 keep.hi)])], [], []⟩⟩) [.rng .i64 (b1.2 + fresh.hi), .rng .i64 ((b1.2 + fresh.hi) * keep.hi), .call ⟨[], [], []⟩ 59 [.v (.int .i64 ((b1.2 + fresh.hi) * keep.hi)), .v (.int .i64 1000)] (.v (.int .i64 r3))] S (by kernel_rfl) (by kernel_rfl) (by kernel_rfl) ⟨rngI64 g1, rngI64 g2, ⟨enters_59, fun _ W _ _ => still_up_ok ((b1.2 + fresh.hi) * keep.hi) 1000 W r3 e4⟩, trivial⟩ ?_
          clear S; intro E a w S
          refine wp_seq ?_
          refine sym_seq lay_ok mixed [] [3, 4, 5, 9, 8, 13, 56] [0, 1] (⟨[(3, .v (.int .i64 limit)), (4, .own 0 0), (5, .own 1 0), (9, .v (.int .i64 b1.1)), (8, .v (.int .i64 b1.2)), (13, .v (.int .i64 r3)), (56, .v (.bool (decide (r3 ≤ b1.2))))], ⟨[(0, .blk 27 [.v (.int .i64 fresh.lo), .v (.int .i64 fresh.hi)]), (1, .blk 27 [.v (.int .i64 keep.lo), .v (.int .i64 keep.hi)])], [], []⟩⟩) [] S (by kernel_rfl) (by kernel_rfl) (by kernel_rfl) trivial ?_
          clear S; intro E a w S
          refine sym_if_last (b := decide (r3 ≤ b1.2)) S rfl (fun hb4 => ?_) (fun hb4 => ?_)
          · have h := bif_t hb4 h
            refine sym_seq lay_ok mixed [] [9, 8, 10] [] (⟨[(9, .v (.int .i64 (-1))), (8, .v (.int .i64 b1.2)), (10, .v (.int .i64 0))], ⟨[], [], []⟩⟩) [] S (by kernel_rfl) (by kernel_rfl) (by kernel_rfl) trivial ?_
            clear S; intro E a w S
            refine wp_ret ?_
            refine out_then_ret ?_
            refine out_block_ret ?_
            refine out_then_ret ?_
            refine out_then_ret ?_
            refine out_block_ret ?_
            refine out_then_ret ?_
            refine out_then_ret ?_
            have hr := Option.some.inj h
            subst hr
            have hr := Option.some.inj hp1
            subst hr
            exact sym_ret lay_ok [.v (.int .i64 b1.2), .v (.int .i64 (-1)), .v (.int .i64 0)] (by kernel_rfl) rfl S ⟨rfl, S.below rfl⟩
          · have h := bif_f hb4 h
            refine wp_skip ?_
            refine out_then_normal ?_
            refine sym_last lay_ok mixed [] [3, 4, 5, 9, 8] [0, 1] (⟨[(3, .v (.int .i64 limit)), (4, .own 0 0), (5, .own 1 0), (9, .v (.int .i64 b1.1)), (8, .v (.int .i64 r3))], ⟨[(0, .blk 27 [.v (.int .i64 fresh.lo), .v (.int .i64 fresh.hi)]), (1, .blk 27 [.v (.int .i64 keep.lo), .v (.int .i64 keep.hi)])], [], []⟩⟩) [] S (by kernel_rfl) (by kernel_rfl) (by kernel_rfl) trivial ?_
            clear S; intro E a w S
            refine out_block_normal ?_
            refine out_then_normal ?_
            obtain ⟨g3, h⟩ := grd_some h
            refine sym_last lay_ok mixed [] [3, 4, 5, 9, 8] [0, 1] (⟨[(3, .v (.int .i64 limit)), (4, .own 0 0), (5, .own 1 0), (9, .v (.int .i64 (b1.1 + 1))), (8, .v (.int .i64 r3))], ⟨[(0, .blk 27 [.v (.int .i64 fresh.lo), .v (.int .i64 fresh.hi)]), (1, .blk 27 [.v (.int .i64 keep.lo), .v (.int .i64 keep.hi)])], [], []⟩⟩) [.rng .i64 (b1.1 + 1)] S (by kernel_rfl) (by kernel_rfl) (by kernel_rfl) ⟨rngI64 g3, trivial⟩ ?_
            clear S; intro E a w S
            refine out_then_normal ?_
            exact ih ((b1.1 + 1), r3) _ _ _ h (St.cast (P := Go.Proofs.Try.prog) [] [] [3, 4, 5, 9, 8] [0, 1] [] _ [] (by kernel_rfl) trivial S)
        · have h := bif_f hb3 h
          refine wp_exit ?_
          refine out_then_exit ?_
          refine out_then_exit ?_
          refine out_block_here ?_
          refine out_then_normal ?_
          have hr := Option.some.inj h
          subst hr
          exact ⟨_, (b1.1, b1.2), hp1, St.cast (P := Go.Proofs.Try.prog) [] [] [9, 8] [] [] _ [] (by kernel_rfl) trivial S⟩
      clear e3 S
      rintro a w ⟨E, x1, h, S⟩
      rw [still_Cycle_k1] at h
      refine out_then_normal ?_
      refine sym_seq lay_ok mixed [] [9, 8, 10] [] (⟨[(9, .v (.int .i64 x1.1)), (8, .v (.int .i64 x1.2)), (10, .v (.int .i64 0))], ⟨[], [], []⟩⟩) [] S (by kernel_rfl) (by kernel_rfl) (by kernel_rfl) trivial ?_
      clear S; intro E a w S
      refine wp_ret ?_
      have h := Option.some.inj h
      subst h
      exact sym_ret lay_ok [.v (.int .i64 x1.2), .v (.int .i64 x1.1), .v (.int .i64 0)] (by kernel_rfl) rfl S ⟨rfl, S.below rfl⟩
def wormtubref04_in (n0 : Int) (low : Int) (high : Int) : Option Bool :=
some (decide (low ≤ n0) && decide (n0 ≤ high))
set_option maxRecDepth 100000 in
set_option maxHeartbeats 4000000 in
theorem wormtubref04_in_ok (n0 : Int) (low : Int) (high : Int) (W : World)  (res : Bool) (h : wormtubref04_in n0 low high = some res) :
    Calls Go.Proofs.Try.prog 51 #[.int .i64 n0, .int .i64 low, .int .i64 high] W fun e w' => e = .returned (.bool res) ∧ Below W.heap.size W w' := by
  refine sym_call (f := 51) (fn := Go.Proofs.Try.f51) (c := Go.Proofs.Try.f51.body.get rfl) Go.Proofs.Try.func51 rfl [.v (.int .i64 n0), .v (.int .i64 low), .v (.int .i64 high)] [] [] (envOf []) allR (fun _ _ => rfl) (by kernel_rfl) (envOf_one trivial) trivial (AllRR.all _ _) trivial fun E a w S => ?_
  rw [wormtubref04_in] at h
  refine sym_seq lay_ok mixed [] [0, 1, 2] [] (⟨[(0, .v (.int .i64 n0)), (1, .v (.int .i64 low)), (2, .v (.int .i64 high))], ⟨[], [], []⟩⟩) [] S (by kernel_rfl) (by kernel_rfl) (by kernel_rfl) trivial ?_
  clear S; intro E a w S
  refine sym_seq lay_ok mixed [(4, { og := true }), (5, { og := true }), (6, { og := true }), (7, { pk := true })] [6] [] (⟨[(6, .v (.bool (decide (low ≤ n0) && decide (n0 ≤ high))))], ⟨[], [], []⟩⟩) [.imp (decide (low ≤ n0)) (decide (low ≤ n0)), .imp (decide (low ≤ n0)) (decide (low ≤ n0)), .imp (decide (low ≤ n0)) (decide (low ≤ n0))] S (by kernel_rfl) (by kernel_rfl) (by kernel_rfl) ⟨fun h => h, fun h => h, fun h => h, trivial⟩ ?_
  clear S; intro E a w S
  refine wp_ret ?_
  have h := Option.some.inj h
  subst h
  exact sym_ret lay_ok [.v (.bool (decide (low ≤ n0) && decide (n0 ≤ high)))] (by kernel_rfl) rfl S ⟨rfl, S.below rfl⟩
def wormtubref04_Within (s : MSpan) (low : Int) (high : Int) : Option Bool :=
some ((decide (low ≤ s.lo) && decide (s.lo ≤ s.hi)) && decide (s.hi ≤ high))
set_option maxRecDepth 100000 in
set_option maxHeartbeats 4000000 in
theorem wormtubref04_Within_ok (s : MSpan) (low : Int) (high : Int) (W : World)  (res : Bool) (h : wormtubref04_Within s low high = some res) :
    Calls Go.Proofs.Try.prog 49 #[.agg #[.int .i64 s.lo, .int .i64 s.hi], .int .i64 low, .int .i64 high] W fun e w' => e = .returned (.bool res) ∧ Below W.heap.size W w' := by
  refine sym_call (f := 49) (fn := Go.Proofs.Try.f49) (c := Go.Proofs.Try.f49.body.get rfl) Go.Proofs.Try.func49 rfl [.agg [.v (.int .i64 s.lo), .v (.int .i64 s.hi)], .v (.int .i64 low), .v (.int .i64 high)] [] [] (envOf []) allR (fun _ _ => rfl) (by kernel_rfl) (envOf_one trivial) trivial (AllRR.all _ _) trivial fun E a w S => ?_
  rw [wormtubref04_Within] at h
  refine sym_seq lay_ok mixed [(0, { g := 0 })] [1, 2, 3] [0] (⟨[(1, .v (.int .i64 low)), (2, .v (.int .i64 high)), (3, .own 0 0)], ⟨[(0, .blk 27 [.v (.int .i64 s.lo), .v (.int .i64 s.hi)])], [], []⟩⟩) [] S (by kernel_rfl) (by kernel_rfl) (by kernel_rfl) trivial ?_
  clear S; intro E a w S
  refine sym_seq lay_ok mixed [(5, { og := true }), (6, { og := true }), (7, { og := true }), (8, { og := true }), (9, { og := true }), (10, { pk := true }), (12, { og := true }), (13, { og := true }), (14, { og := true }), (15, { og := true }), (16, { pk := true })] [6] [] (⟨[(6, .v (.bool ((decide (low ≤ s.lo) && decide (s.lo ≤ s.hi)) && decide (s.hi ≤ high))))], ⟨[], [], []⟩⟩) [.imp (decide (low ≤ s.lo)) (decide (low ≤ s.lo)), .imp (decide (low ≤ s.lo)) (decide (low ≤ s.lo)), .imp (decide (low ≤ s.lo)) (decide (low ≤ s.lo)), .imp (decide (low ≤ s.lo)) (decide (low ≤ s.lo)), .imp (decide (low ≤ s.lo)) (decide (low ≤ s.lo)), .imp (decide (low ≤ s.lo) && decide (s.lo ≤ s.hi)) (decide (low ≤ s.lo) && decide (s.lo ≤ s.hi)), .imp (decide (low ≤ s.lo) && decide (s.lo ≤ s.hi)) (decide (low ≤ s.lo) && decide (s.lo ≤ s.hi)), .imp (decide (low ≤ s.lo) && decide (s.lo ≤ s.hi)) (decide (low ≤ s.lo) && decide (s.lo ≤ s.hi)), .imp (decide (low ≤ s.lo) && decide (s.lo ≤ s.hi)) (decide (low ≤ s.lo) && decide (s.lo ≤ s.hi))] S (by kernel_rfl) (by kernel_rfl) (by kernel_rfl) ⟨fun h => h, fun h => h, fun h => h, fun h => h, fun h => h, fun h => h, fun h => h, fun h => h, fun h => h, trivial⟩ ?_
  clear S; intro E a w S
  refine wp_ret ?_
  have h := Option.some.inj h
  subst h
  exact sym_ret lay_ok [.v (.bool ((decide (low ≤ s.lo) && decide (s.lo ≤ s.hi)) && decide (s.hi ≤ high)))] (by kernel_rfl) rfl S ⟨rfl, S.below rfl⟩
def wormtubref04_Curve_R (c : MCurve) : List (Nat × Q) := [(0, ⟨c.liquid.length, 1, fun i => [.int .i64 (c.liquid.getD i default)]⟩), (1, ⟨c.vapour.length, 2, fun i => [.int .i64 ((c.vapour.getD i default).lo), .int .i64 ((c.vapour.getD i default).hi)]⟩)]
def wormtubref04_Curve_k1 (c : MCurve) (x1 : Unit) : Option Bool :=
grd (((0 : Int) ≤ 0 ∧ (0 : Int) < ((c.liquid.length : Nat) : Int)) ∧ (((c.liquid.getD (Int.toNat 0) default) == 0) = true → InI64 (((c.liquid.length : Nat) : Int) - 1)) ∧ (((c.liquid.getD (Int.toNat 0) default) == 0) = true → ((0 : Int) ≤ (((c.liquid.length : Nat) : Int) - 1) ∧ ((((c.liquid.length : Nat) : Int) - 1) : Int) < ((c.liquid.length : Nat) : Int))) ∧ ((((c.liquid.getD (Int.toNat 0) default) == 0) && ((c.liquid.getD (Int.toNat (((c.liquid.length : Nat) : Int) - 1)) default) == 10000)) = true → ((0 : Int) ≤ 0 ∧ (0 : Int) < ((c.vapour.length : Nat) : Int)))) <|
some ((((c.liquid.getD (Int.toNat 0) default) == 0) && ((c.liquid.getD (Int.toNat (((c.liquid.length : Nat) : Int) - 1)) default) == 10000)) && (((c.vapour.getD (Int.toNat 0) default).lo) == 0))
def wormtubref04_Curve_l1 (c : MCurve) : Nat → Int → Option (Lp Unit Bool)
  | 0, _ => none
  | n + 1, b1 =>
    (bif decide (b1 < ((c.liquid.length : Nat) : Int)) then
    (grd (((0 : Int) ≤ b1 ∧ (b1 : Int) < ((c.vapour.length : Nat) : Int)) ∧ ((0 : Int) ≤ b1 ∧ (b1 : Int) < ((c.liquid.length : Nat) : Int))) <|
    (wormtubref04_Within (c.vapour.getD (Int.toNat b1) default) (c.liquid.getD (Int.toNat b1) default) 10000).bind fun (r2 : Bool) =>
    grd (((!(!r2)) = true → ((0 : Int) ≤ b1 ∧ (b1 : Int) < ((c.liquid.length : Nat) : Int)))) <|
    (bif ((!r2) || decide ((c.liquid.getD (Int.toNat b1) default) < 0)) then
    (some (Lp.ret false))
    else
    (grd ((decide (0 < b1) = true → ((0 : Int) ≤ b1 ∧ (b1 : Int) < ((c.liquid.length : Nat) : Int))) ∧ (decide (0 < b1) = true → InI64 (b1 - 1)) ∧ (decide (0 < b1) = true → ((0 : Int) ≤ (b1 - 1) ∧ ((b1 - 1) : Int) < ((c.liquid.length : Nat) : Int))) ∧ ((decide (0 < b1) && (!(decide ((c.liquid.getD (Int.toNat b1) default) ≤ (c.liquid.getD (Int.toNat (b1 - 1)) default))))) = true → ((0 : Int) ≤ b1 ∧ (b1 : Int) < ((c.vapour.length : Nat) : Int))) ∧ ((decide (0 < b1) && (!(decide ((c.liquid.getD (Int.toNat b1) default) ≤ (c.liquid.getD (Int.toNat (b1 - 1)) default))))) = true → InI64 (b1 - 1)) ∧ ((decide (0 < b1) && (!(decide ((c.liquid.getD (Int.toNat b1) default) ≤ (c.liquid.getD (Int.toNat (b1 - 1)) default))))) = true → ((0 : Int) ≤ (b1 - 1) ∧ ((b1 - 1) : Int) < ((c.vapour.length : Nat) : Int))) ∧ ((decide (0 < b1) && (!(decide ((c.liquid.getD (Int.toNat b1) default) ≤ (c.liquid.getD (Int.toNat (b1 - 1)) default)) || decide (((c.vapour.getD (Int.toNat b1) default).lo) < ((c.vapour.getD (Int.toNat (b1 - 1)) default).lo))))) = true → ((0 : Int) ≤ b1 ∧ (b1 : Int) < ((c.vapour.length : Nat) : Int))) ∧ ((decide (0 < b1) && (!(decide ((c.liquid.getD (Int.toNat b1) default) ≤ (c.liquid.getD (Int.toNat (b1 - 1)) default)) || decide (((c.vapour.getD (Int.toNat b1) default).lo) < ((c.vapour.getD (Int.toNat (b1 - 1)) default).lo))))) = true → InI64 (b1 - 1)) ∧ ((decide (0 < b1) && (!(decide ((c.liquid.getD (Int.toNat b1) default) ≤ (c.liquid.getD (Int.toNat (b1 - 1)) default)) || decide (((c.vapour.getD (Int.toNat b1) default).lo) < ((c.vapour.getD (Int.toNat (b1 - 1)) default).lo))))) = true → ((0 : Int) ≤ (b1 - 1) ∧ ((b1 - 1) : Int) < ((c.vapour.length : Nat) : Int)))) <|
    (bif (decide (0 < b1) && ((decide ((c.liquid.getD (Int.toNat b1) default) ≤ (c.liquid.getD (Int.toNat (b1 - 1)) default)) || decide (((c.vapour.getD (Int.toNat b1) default).lo) < ((c.vapour.getD (Int.toNat (b1 - 1)) default).lo))) || decide (((c.vapour.getD (Int.toNat b1) default).hi) < ((c.vapour.getD (Int.toNat (b1 - 1)) default).hi)))) then
    (some (Lp.ret false))
    else
    (grd (InI64 (b1 + 1)) <|
    wormtubref04_Curve_l1 c n (b1 + 1))))))
    else
    (some (Lp.done ())))
def wormtubref04_Curve (fuel : Nat) (c : MCurve) : Option Bool :=
(wormtubref04_in ((c.liquid.length : Nat) : Int) 2 32).bind fun (r1 : Bool) =>
(bif ((!r1) || (((c.vapour.length : Nat) : Int) != ((c.liquid.length : Nat) : Int))) then
(some false)
else
((wormtubref04_Curve_l1 c fuel 0).bind fun lr1 => lr1.go fun x1 => wormtubref04_Curve_k1 c x1))
set_option maxRecDepth 100000 in
set_option maxHeartbeats 4000000 in
theorem wormtubref04_Curve_ok (fuel : Nat) (c : MCurve) (W : World) (A0 : Option Addr) (c0 : Nat) (h0 : c.liquid.length ≤ c0) (s0 : SlAt W A0 c.liquid.length 1 fun i => [.int .i64 (c.liquid.getD i default)]) (A1 : Option Addr) (c1 : Nat) (h1 : c.vapour.length ≤ c1) (s1 : SlAt W A1 c.vapour.length 2 fun i => [.int .i64 ((c.vapour.getD i default).lo), .int .i64 ((c.vapour.getD i default).hi)]) (res : Bool) (h : wormtubref04_Curve fuel c = some res) :
    Calls Go.Proofs.Try.prog 39 #[.agg #[.slice A0 c.liquid.length c0, .slice A1 c.vapour.length c1]] W fun e w' => e = .returned (.bool res) ∧ Below W.heap.size W w' := by
  refine sym_call (f := 39) (fn := Go.Proofs.Try.f39) (c := Go.Proofs.Try.f39.body.get rfl) Go.Proofs.Try.func39 rfl [.agg [.sl 0, .sl 1]] (wormtubref04_Curve_R c) [] (envOf [(0, ⟨A0, c.liquid.length, c0, 1⟩), (1, ⟨A1, c.vapour.length, c1, 2⟩)]) allR (fun _ _ => rfl) (by kernel_rfl) (envOf_one trivial) ⟨s0.rd h0, s1.rd h1, trivial⟩ (AllRR.all _ _) trivial fun E a w S => ?_
  rw [wormtubref04_Curve] at h
  refine sym_seq lay_ok mixed [(0, { g := 0 })] [1] [0] (⟨[(1, .own 0 0)], ⟨[(0, .blk 25 [.sl 0, .sl 1])], (wormtubref04_Curve_R c), []⟩⟩) [] S (by kernel_rfl) (by kernel_rfl) (by kernel_rfl) trivial ?_
  clear S; intro E a w S
  refine sym_seq lay_ok mixed [] [1, 3] [0] (⟨[(1, .own 0 0), (3, .v (.int .i64 ((c.liquid.length : Nat) : Int)))], ⟨[(0, .blk 25 [.sl 0, .sl 1])], (wormtubref04_Curve_R c), []⟩⟩) [] S (by kernel_rfl) (by kernel_rfl) (by kernel_rfl) trivial ?_
  clear S; intro E a w S
  refine wp_seq ?_
  obtain ⟨r1, e1, h⟩ := bind_some h
  refine sym_seq lay_ok mixed [(1, { res := .v (.bool r1) }), (4, { og := true }), (5, { og := true }), (6, { og := true }), (7, { og := true }), (8, { og := true }), (9, { pk := true })] [1, 3, 17] [0] (⟨[(1, .own 0 0), (3, .v (.int .i64 ((c.liquid.length : Nat) : Int))), (17, .v (.bool ((!r1) || (((c.vapour.length : Nat) : Int) != ((c.liquid.length : Nat) : Int)))))], ⟨[(0, .blk 25 [.sl 0, .sl 1])], (wormtubref04_Curve_R c), []⟩⟩) [.call ⟨[], (wormtubref04_Curve_R c), []⟩ 51 [.v (.int .i64 ((c.liquid.length : Nat) : Int)), .v (.int .i64 2), .v (.int .i64 32)] (.v (.bool r1)), .imp (!(!r1)) (!(!r1)), .imp (!(!r1)) (!(!r1)), .imp (!(!r1)) (!(!r1)), .imp (!(!r1)) (!(!r1)), .imp (!(!r1)) (!(!r1))] S (by kernel_rfl) (by kernel_rfl) (by kernel_rfl) ⟨⟨enters_51, fun _ W _ _ => wormtubref04_in_ok ((c.liquid.length : Nat) : Int) 2 32 W r1 e1⟩, fun h => h, fun h => h, fun h => h, fun h => h, fun h => h, trivial⟩ ?_
  clear S; intro E a w S
  refine sym_if_last (b := ((!r1) || (((c.vapour.length : Nat) : Int) != ((c.liquid.length : Nat) : Int)))) S rfl (fun hb1 => ?_) (fun hb1 => ?_)
  · have h := bif_t hb1 h
    refine sym_seq lay_ok mixed [] [2] [] (⟨[(2, .v (.bool false))], ⟨[], (wormtubref04_Curve_R c), []⟩⟩) [] S (by kernel_rfl) (by kernel_rfl) (by kernel_rfl) trivial ?_
    clear S; intro E a w S
    refine wp_ret ?_
    refine out_then_ret ?_
    have h := Option.some.inj h
    subst h
    exact sym_ret lay_ok [.v (.bool false)] (by kernel_rfl) rfl S ⟨rfl, S.below rfl⟩
  · have h := bif_f hb1 h
    refine wp_skip ?_
    refine out_then_normal ?_
    refine wp_seq ?_
    refine sym_seq lay_ok mixed [] [1, 3, 4] [0] (⟨[(1, .own 0 0), (3, .v (.int .i64 ((c.liquid.length : Nat) : Int))), (4, .v (.int .i64 0))], ⟨[(0, .blk 25 [.sl 0, .sl 1])], (wormtubref04_Curve_R c), []⟩⟩) [] S (by kernel_rfl) (by kernel_rfl) (by kernel_rfl) trivial ?_
    clear S; intro E a w S
    obtain ⟨lr1, e2, hp1⟩ := bind_some h
    clear h
    refine sym_block_last (G := fun a w => ∃ E, ∃ x1 : Unit, wormtubref04_Curve_k1 c x1 = some res ∧ St ⟨W, noC, Go.Proofs.Try.f39.ntmps, [], allR, noρ, (envOf [(0, ⟨A0, c.liquid.length, c0, 1⟩), (1, ⟨A1, c.vapour.length, c1, 2⟩)]).sl, (envOf [(0, ⟨A0, c.liquid.length, c0, 1⟩), (1, ⟨A1, c.vapour.length, c1, 2⟩)]).x⟩ (⟨[(1, .own 0 0), (3, .v (.int .i64 ((c.liquid.length : Nat) : Int)))], ⟨[(0, .blk 25 [.sl 0, .sl 1])], (wormtubref04_Curve_R c), []⟩⟩) E a w) ?_ ?_
    · refine wp_loop_rounds fuel ?_
      refine sym_rounds (F := fun n b1 => wormtubref04_Curve_l1 c n b1 = some lr1) (H := fun b1 => ⟨[(1, .own 0 0), (3, .v (.int .i64 ((c.liquid.length : Nat) : Int))), (4, .v (.int .i64 b1))], ⟨[(0, .blk 25 [.sl 0, .sl 1])], (wormtubref04_Curve_R c), []⟩⟩) 0 (fun b hb => by have hb : none = some lr1 := hb; cases hb) ?_ _ _ _ _ e2 (St.cast (P := Go.Proofs.Try.prog) [] [] [1, 3, 4] [0] [0, 1] _ [] (by kernel_rfl) trivial S)
      clear e2 S
      intro n b1 E a w h ih S
      rw [wormtubref04_Curve_l1] at h
      refine wp_seq ?_
      refine sym_seq lay_ok mixed [] [1, 3, 4, 20] [0] (⟨[(1, .own 0 0), (3, .v (.int .i64 ((c.liquid.length : Nat) : Int))), (4, .v (.int .i64 b1)), (20, .v (.bool (decide (b1 < ((c.liquid.length : Nat) : Int)))))], ⟨[(0, .blk 25 [.sl 0, .sl 1])], (wormtubref04_Curve_R c), []⟩⟩) [] S (by kernel_rfl) (by kernel_rfl) (by kernel_rfl) trivial ?_
      clear S; intro E a w S
      refine sym_if_last (b := decide (b1 < ((c.liquid.length : Nat) : Int))) S rfl (fun hb2 => ?_) (fun hb2 => ?_)
      · have h := bif_t hb2 h
        refine wp_skip ?_
        refine out_then_normal ?_
        refine wp_seq ?_
        refine wp_block ?_
        refine wp_seq ?_
        obtain ⟨⟨g1, g2⟩, h⟩ := grd_some h
        obtain ⟨r2, e3, h⟩ := bind_some h
        obtain ⟨g3, h⟩ := grd_some h
        refine sym_seq lay_ok mixed [(10, { res := .v (.bool r2) }), (13, { og := true }), (14, { og := true }), (15, { og := true }), (16, { og := true }), (17, { og := true }), (18, { og := true }), (19, { pk := true })] [1, 3, 4, 42] [0] (⟨[(1, .own 0 0), (3, .v (.int .i64 ((c.liquid.length : Nat) : Int))), (4, .v (.int .i64 b1)), (42, .v (.bool ((!r2) || decide ((c.liquid.getD (Int.toNat b1) default) < 0))))], ⟨[(0, .blk 25 [.sl 0, .sl 1])], (wormtubref04_Curve_R c), []⟩⟩) [.idx b1 c.vapour.length, .idx b1 c.vapour.length, .idx b1 c.liquid.length, .idx b1 c.liquid.length, .call ⟨[], (wormtubref04_Curve_R c), []⟩ 49 [.agg [.v (.int .i64 ((c.vapour.getD (Int.toNat b1) default).lo)), .v (.int .i64 ((c.vapour.getD (Int.toNat b1) default).hi))], .v (.int .i64 (c.liquid.getD (Int.toNat b1) default)), .v (.int .i64 10000)] (.v (.bool r2)), .imp (!(!r2)) (!(!r2)), .imp (!(!r2)) (!(!r2)), .imp (!(!r2)) (!(!r2)), .when (!(!r2)) (.idx b1 c.liquid.length), .imp (!(!r2)) (!(!r2)), .when (!(!r2)) (.idx b1 c.liquid.length), .imp (!(!r2)) (!(!r2)), .imp (!(!r2)) (!(!r2))] S (by kernel_rfl) (by kernel_rfl) (by kernel_rfl) ⟨g1, g1, g2, g2, ⟨enters_49, fun _ W _ _ => wormtubref04_Within_ok (c.vapour.getD (Int.toNat b1) default) (c.liquid.getD (Int.toNat b1) default) 10000 W r2 e3⟩, fun h => h, fun h => h, fun h => h, fun hW => (g3 hW), fun h => h, fun hW => (g3 hW), fun h => h, fun h => h, trivial⟩ ?_
        clear S; intro E a w S
        refine sym_if_last (b := ((!r2) || decide ((c.liquid.getD (Int.toNat b1) default) < 0))) S rfl (fun hb3 => ?_) (fun hb3 => ?_)
        · have h := bif_t hb3 h
          refine sym_seq lay_ok mixed [] [2] [] (⟨[(2, .v (.bool false))], ⟨[], (wormtubref04_Curve_R c), []⟩⟩) [] S (by kernel_rfl) (by kernel_rfl) (by kernel_rfl) trivial ?_
          clear S; intro E a w S
          refine wp_ret ?_
          refine out_then_ret ?_
          refine out_block_ret ?_
          refine out_then_ret ?_
          refine out_then_ret ?_
          refine out_block_ret ?_
          refine out_then_ret ?_
          refine out_then_ret ?_
          have hr := Option.some.inj h
          subst hr
          have hr := Option.some.inj hp1
          subst hr
          exact sym_ret lay_ok [.v (.bool false)] (by kernel_rfl) rfl S ⟨rfl, S.below rfl⟩
        · have h := bif_f hb3 h
          refine wp_skip ?_
          refine out_then_normal ?_
          obtain ⟨⟨g4, g5, g6, g7, g8, g9, g10, g11, g12⟩, h⟩ := grd_some h
          refine sym_seq lay_ok mixed [(3, { og := true }), (4, { og := true }), (5, { og := true }), (6, { og := true }), (7, { og := true }), (8, { og := true }), (9, { og := true }), (10, { og := true }), (11, { og := true }), (12, { og := true }), (13, { og := true }), (14, { og := true }), (15, { og := true }), (16, { og := true }), (17, { og := true }), (18, { og := true }), (19, { og := true }), (20, { og := true }), (21, { og := true }), (22, { og := true }), (23, { og := true }), (24, { og := true }), (25, { og := true }), (26, { og := true }), (27, { og := true }), (28, { og := true }), (29, { og := true }), (30, { og := true, pk := true }), (31, { og := true }), (32, { og := true }), (33, { og := true }), (34, { og := true }), (35, { og := true }), (36, { og := true }), (37, { og := true }), (38, { og := true }), (39, { og := true }), (40, { og := true }), (41, { og := true }), (42, { og := true }), (43, { og := true }), (44, { og := true }), (45, { og := true }), (46, { og := true, pk := true }), (47, { pk := true })] [1, 3, 4, 90] [0] (⟨[(1, .own 0 0), (3, .v (.int .i64 ((c.liquid.length : Nat) : Int))), (4, .v (.int .i64 b1)), (90, .v (.bool (decide (0 < b1) && ((decide ((c.liquid.getD (Int.toNat b1) default) ≤ (c.liquid.getD (Int.toNat (b1 - 1)) default)) || decide (((c.vapour.getD (Int.toNat b1) default).lo) < ((c.vapour.getD (Int.toNat (b1 - 1)) default).lo))) || decide (((c.vapour.getD (Int.toNat b1) default).hi) < ((c.vapour.getD (Int.toNat (b1 - 1)) default).hi))))))], ⟨[(0, .blk 25 [.sl 0, .sl 1])], (wormtubref04_Curve_R c), []⟩⟩) (Ob.imp (decide (0 < b1)) (decide (0 < b1)) :: Ob.imp (decide (0 < b1)) (decide (0 < b1)) :: Ob.imp (decide (0 < b1)) (decide (0 < b1)) :: Ob.when (decide (0 < b1)) (.idx b1 c.liquid.length) :: Ob.imp (decide (0 < b1)) (decide (0 < b1)) :: Ob.when (decide (0 < b1)) (.idx b1 c.liquid.length) :: Ob.imp (decide (0 < b1)) (decide (0 < b1)) :: Ob.imp (decide (0 < b1)) (decide (0 < b1)) :: Ob.when (decide (0 < b1)) (.rng .i64 (b1 - 1)) :: Ob.imp (decide (0 < b1)) (decide (0 < b1)) :: Ob.imp (decide (0 < b1)) (decide (0 < b1)) :: Ob.when (decide (0 < b1)) (.idx (b1 - 1) c.liquid.length) :: Ob.imp (decide (0 < b1)) (decide (0 < b1)) :: Ob.when (decide (0 < b1)) (.idx (b1 - 1) c.liquid.length) :: Ob.imp (decide (0 < b1)) (decide (0 < b1)) :: Ob.imp (decide (0 < b1)) (decide (0 < b1)) :: Ob.imp (decide (0 < b1)) (decide (0 < b1)) :: Ob.imp (decide (0 < b1) && (!(decide ((c.liquid.getD (Int.toNat b1) default) ≤ (c.liquid.getD (Int.toNat (b1 - 1)) default))))) (decide (0 < b1) && (!(decide ((c.liquid.getD (Int.toNat b1) default) ≤ (c.liquid.getD (Int.toNat (b1 - 1)) default))))) :: Ob.imp (decide (0 < b1) && (!(decide ((c.liquid.getD (Int.toNat b1) default) ≤ (c.liquid.getD (Int.toNat (b1 - 1)) default))))) (decide (0 < b1) && (!(decide ((c.liquid.getD (Int.toNat b1) default) ≤ (c.liquid.getD (Int.toNat (b1 - 1)) default))))) :: Ob.imp (decide (0 < b1) && (!(decide ((c.liquid.getD (Int.toNat b1) default) ≤ (c.liquid.getD (Int.toNat (b1 - 1)) default))))) (decide (0 < b1) && (!(decide ((c.liquid.getD (Int.toNat b1) default) ≤ (c.liquid.getD (Int.toNat (b1 - 1)) default))))) :: Ob.when (decide (0 < b1) && (!(decide ((c.liquid.getD (Int.toNat b1) default) ≤ (c.liquid.getD (Int.toNat (b1 - 1)) default))))) (.idx b1 c.vapour.length) :: Ob.imp (decide (0 < b1) && (!(decide ((c.liquid.getD (Int.toNat b1) default) ≤ (c.liquid.getD (Int.toNat (b1 - 1)) default))))) (decide (0 < b1) && (!(decide ((c.liquid.getD (Int.toNat b1) default) ≤ (c.liquid.getD (Int.toNat (b1 - 1)) default))))) :: Ob.when (decide (0 < b1) && (!(decide ((c.liquid.getD (Int.toNat b1) default) ≤ (c.liquid.getD (Int.toNat (b1 - 1)) default))))) (.idx b1 c.vapour.length) :: Ob.imp (decide (0 < b1) && (!(decide ((c.liquid.getD (Int.toNat b1) default) ≤ (c.liquid.getD (Int.toNat (b1 - 1)) default))))) (decide (0 < b1) && (!(decide ((c.liquid.getD (Int.toNat b1) default) ≤ (c.liquid.getD (Int.toNat (b1 - 1)) default))))) :: Ob.when (decide (0 < b1) && (!(decide ((c.liquid.getD (Int.toNat b1) default) ≤ (c.liquid.getD (Int.toNat (b1 - 1)) default))))) (.idx b1 c.vapour.length) :: Ob.imp (decide (0 < b1) && (!(decide ((c.liquid.getD (Int.toNat b1) default) ≤ (c.liquid.getD (Int.toNat (b1 - 1)) default))))) (decide (0 < b1) && (!(decide ((c.liquid.getD (Int.toNat b1) default) ≤ (c.liquid.getD (Int.toNat (b1 - 1)) default))))) :: Ob.imp (decide (0 < b1) && (!(decide ((c.liquid.getD (Int.toNat b1) default) ≤ (c.liquid.getD (Int.toNat (b1 - 1)) default))))) (decide (0 < b1) && (!(decide ((c.liquid.getD (Int.toNat b1) default) ≤ (c.liquid.getD (Int.toNat (b1 - 1)) default))))) :: Ob.when (decide (0 < b1) && (!(decide ((c.liquid.getD (Int.toNat b1) default) ≤ (c.liquid.getD (Int.toNat (b1 - 1)) default))))) (.rng .i64 (b1 - 1)) :: Ob.imp (decide (0 < b1) && (!(decide ((c.liquid.getD (Int.toNat b1) default) ≤ (c.liquid.getD (Int.toNat (b1 - 1)) default))))) (decide (0 < b1) && (!(decide ((c.liquid.getD (Int.toNat b1) default) ≤ (c.liquid.getD (Int.toNat (b1 - 1)) default))))) :: Ob.imp (decide (0 < b1) && (!(decide ((c.liquid.getD (Int.toNat b1) default) ≤ (c.liquid.getD (Int.toNat (b1 - 1)) default))))) (decide (0 < b1) && (!(decide ((c.liquid.getD (Int.toNat b1) default) ≤ (c.liquid.getD (Int.toNat (b1 - 1)) default))))) :: Ob.when (decide (0 < b1) && (!(decide ((c.liquid.getD (Int.toNat b1) default) ≤ (c.liquid.getD (Int.toNat (b1 - 1)) default))))) (.idx (b1 - 1) c.vapour.length) :: Ob.imp (decide (0 < b1) && (!(decide ((c.liquid.getD (Int.toNat b1) default) ≤ (c.liquid.getD (Int.toNat (b1 - 1)) default))))) (decide (0 < b1) && (!(decide ((c.liquid.getD (Int.toNat b1) default) ≤ (c.liquid.getD (Int.toNat (b1 - 1)) default))))) :: Ob.when (decide (0 < b1) && (!(decide ((c.liquid.getD (Int.toNat b1) default) ≤ (c.liquid.getD (Int.toNat (b1 - 1)) default))))) (.idx (b1 - 1) c.vapour.length) :: Ob.imp (decide (0 < b1) && (!(decide ((c.liquid.getD (Int.toNat b1) default) ≤ (c.liquid.getD (Int.toNat (b1 - 1)) default))))) (decide (0 < b1) && (!(decide ((c.liquid.getD (Int.toNat b1) default) ≤ (c.liquid.getD (Int.toNat (b1 - 1)) default))))) :: Ob.when (decide (0 < b1) && (!(decide ((c.liquid.getD (Int.toNat b1) default) ≤ (c.liquid.getD (Int.toNat (b1 - 1)) default))))) (.idx (b1 - 1) c.vapour.length) :: Ob.imp (decide (0 < b1) && (!(decide ((c.liquid.getD (Int.toNat b1) default) ≤ (c.liquid.getD (Int.toNat (b1 - 1)) default))))) (decide (0 < b1) && (!(decide ((c.liquid.getD (Int.toNat b1) default) ≤ (c.liquid.getD (Int.toNat (b1 - 1)) default))))) :: Ob.imp (decide (0 < b1) && (!(decide ((c.liquid.getD (Int.toNat b1) default) ≤ (c.liquid.getD (Int.toNat (b1 - 1)) default))))) (decide (0 < b1) && (!(decide ((c.liquid.getD (Int.toNat b1) default) ≤ (c.liquid.getD (Int.toNat (b1 - 1)) default))))) :: Ob.imp (decide (0 < b1)) (decide (0 < b1)) :: Ob.when (decide (0 < b1)) (.imp (!(decide ((c.liquid.getD (Int.toNat b1) default) ≤ (c.liquid.getD (Int.toNat (b1 - 1)) default)))) (decide (0 < b1) && (!(decide ((c.liquid.getD (Int.toNat b1) default) ≤ (c.liquid.getD (Int.toNat (b1 - 1)) default)))))) :: Ob.imp (decide (0 < b1)) (decide (0 < b1)) :: Ob.imp (decide (0 < b1) && (!(decide ((c.liquid.getD (Int.toNat b1) default) ≤ (c.liquid.getD (Int.toNat (b1 - 1)) default)) || decide (((c.vapour.getD (Int.toNat b1) default).lo) < ((c.vapour.getD (Int.toNat (b1 - 1)) default).lo))))) (decide (0 < b1) && (!(decide ((c.liquid.getD (Int.toNat b1) default) ≤ (c.liquid.getD (Int.toNat (b1 - 1)) default)) || decide (((c.vapour.getD (Int.toNat b1) default).lo) < ((c.vapour.getD (Int.toNat (b1 - 1)) default).lo))))) :: Ob.imp (decide (0 < b1) && (!(decide ((c.liquid.getD (Int.toNat b1) default) ≤ (c.liquid.getD (Int.toNat (b1 - 1)) default)) || decide (((c.vapour.getD (Int.toNat b1) default).lo) < ((c.vapour.getD (Int.toNat (b1 - 1)) default).lo))))) (decide (0 < b1) && (!(decide ((c.liquid.getD (Int.toNat b1) default) ≤ (c.liquid.getD (Int.toNat (b1 - 1)) default)) || decide (((c.vapour.getD (Int.toNat b1) default).lo) < ((c.vapour.getD (Int.toNat (b1 - 1)) default).lo))))) :: Ob.imp (decide (0 < b1) && (!(decide ((c.liquid.getD (Int.toNat b1) default) ≤ (c.liquid.getD (Int.toNat (b1 - 1)) default)) || decide (((c.vapour.getD (Int.toNat b1) default).lo) < ((c.vapour.getD (Int.toNat (b1 - 1)) default).lo))))) (decide (0 < b1) && (!(decide ((c.liquid.getD (Int.toNat b1) default) ≤ (c.liquid.getD (Int.toNat (b1 - 1)) default)) || decide (((c.vapour.getD (Int.toNat b1) default).lo) < ((c.vapour.getD (Int.toNat (b1 - 1)) default).lo))))) :: Ob.when (decide (0 < b1) && (!(decide ((c.liquid.getD (Int.toNat b1) default) ≤ (c.liquid.getD (Int.toNat (b1 - 1)) default)) || decide (((c.vapour.getD (Int.toNat b1) default).lo) < ((c.vapour.getD (Int.toNat (b1 - 1)) default).lo))))) (.idx b1 c.vapour.length) :: Ob.imp (decide (0 < b1) && (!(decide ((c.liquid.getD (Int.toNat b1) default) ≤ (c.liquid.getD (Int.toNat (b1 - 1)) default)) || decide (((c.vapour.getD (Int.toNat b1) default).lo) < ((c.vapour.getD (Int.toNat (b1 - 1)) default).lo))))) (decide (0 < b1) && (!(decide ((c.liquid.getD (Int.toNat b1) default) ≤ (c.liquid.getD (Int.toNat (b1 - 1)) default)) || decide (((c.vapour.getD (Int.toNat b1) default).lo) < ((c.vapour.getD (Int.toNat (b1 - 1)) default).lo))))) :: Ob.when (decide (0 < b1) && (!(decide ((c.liquid.getD (Int.toNat b1) default) ≤ (c.liquid.getD (Int.toNat (b1 - 1)) default)) || decide (((c.vapour.getD (Int.toNat b1) default).lo) < ((c.vapour.getD (Int.toNat (b1 - 1)) default).lo))))) (.idx b1 c.vapour.length) :: Ob.imp (decide (0 < b1) && (!(decide ((c.liquid.getD (Int.toNat b1) default) ≤ (c.liquid.getD (Int.toNat (b1 - 1)) default)) || decide (((c.vapour.getD (Int.toNat b1) default).lo) < ((c.vapour.getD (Int.toNat (b1 - 1)) default).lo))))) (decide (0 < b1) && (!(decide ((c.liquid.getD (Int.toNat b1) default) ≤ (c.liquid.getD (Int.toNat (b1 - 1)) default)) || decide (((c.vapour.getD (Int.toNat b1) default).lo) < ((c.vapour.getD (Int.toNat (b1 - 1)) default).lo))))) :: Ob.when (decide (0 < b1) && (!(decide ((c.liquid.getD (Int.toNat b1) default) ≤ (c.liquid.getD (Int.toNat (b1 - 1)) default)) || decide (((c.vapour.getD (Int.toNat b1) default).lo) < ((c.vapour.getD (Int.toNat (b1 - 1)) default).lo))))) (.idx b1 c.vapour.length) :: Ob.imp (decide (0 < b1) && (!(decide ((c.liquid.getD (Int.toNat b1) default) ≤ (c.liquid.getD (Int.toNat (b1 - 1)) default)) || decide (((c.vapour.getD (Int.toNat b1) default).lo) < ((c.vapour.getD (Int.toNat (b1 - 1)) default).lo))))) (decide (0 < b1) && (!(decide ((c.liquid.getD (Int.toNat b1) default) ≤ (c.liquid.getD (Int.toNat (b1 - 1)) default)) || decide (((c.vapour.getD (Int.toNat b1) default).lo) < ((c.vapour.getD (Int.toNat (b1 - 1)) default).lo))))) :: Ob.imp (decide (0 < b1) && (!(decide ((c.liquid.getD (Int.toNat b1) default) ≤ (c.liquid.getD (Int.toNat (b1 - 1)) default)) || decide (((c.vapour.getD (Int.toNat b1) default).lo) < ((c.vapour.getD (Int.toNat (b1 - 1)) default).lo))))) (decide (0 < b1) && (!(decide ((c.liquid.getD (Int.toNat b1) default) ≤ (c.liquid.getD (Int.toNat (b1 - 1)) default)) || decide (((c.vapour.getD (Int.toNat b1) default).lo) < ((c.vapour.getD (Int.toNat (b1 - 1)) default).lo))))) :: Ob.when (decide (0 < b1) && (!(decide ((c.liquid.getD (Int.toNat b1) default) ≤ (c.liquid.getD (Int.toNat (b1 - 1)) default)) || decide (((c.vapour.getD (Int.toNat b1) default).lo) < ((c.vapour.getD (Int.toNat (b1 - 1)) default).lo))))) (.rng .i64 (b1 - 1)) :: Ob.imp (decide (0 < b1) && (!(decide ((c.liquid.getD (Int.toNat b1) default) ≤ (c.liquid.getD (Int.toNat (b1 - 1)) default)) || decide (((c.vapour.getD (Int.toNat b1) default).lo) < ((c.vapour.getD (Int.toNat (b1 - 1)) default).lo))))) (decide (0 < b1) && (!(decide ((c.liquid.getD (Int.toNat b1) default) ≤ (c.liquid.getD (Int.toNat (b1 - 1)) default)) || decide (((c.vapour.getD (Int.toNat b1) default).lo) < ((c.vapour.getD (Int.toNat (b1 - 1)) default).lo))))) :: Ob.imp (decide (0 < b1) && (!(decide ((c.liquid.getD (Int.toNat b1) default) ≤ (c.liquid.getD (Int.toNat (b1 - 1)) default)) || decide (((c.vapour.getD (Int.toNat b1) default).lo) < ((c.vapour.getD (Int.toNat (b1 - 1)) default).lo))))) (decide (0 < b1) && (!(decide ((c.liquid.getD (Int.toNat b1) default) ≤ (c.liquid.getD (Int.toNat (b1 - 1)) default)) || decide (((c.vapour.getD (Int.toNat b1) default).lo) < ((c.vapour.getD (Int.toNat (b1 - 1)) default).lo))))) :: Ob.when (decide (0 < b1) && (!(decide ((c.liquid.getD (Int.toNat b1) default) ≤ (c.liquid.getD (Int.toNat (b1 - 1)) default)) || decide (((c.vapour.getD (Int.toNat b1) default).lo) < ((c.vapour.getD (Int.toNat (b1 - 1)) default).lo))))) (.idx (b1 - 1) c.vapour.length) :: Ob.imp (decide (0 < b1) && (!(decide ((c.liquid.getD (Int.toNat b1) default) ≤ (c.liquid.getD (Int.toNat (b1 - 1)) default)) || decide (((c.vapour.getD (Int.toNat b1) default).lo) < ((c.vapour.getD (Int.toNat (b1 - 1)) default).lo))))) (decide (0 < b1) && (!(decide ((c.liquid.getD (Int.toNat b1) default) ≤ (c.liquid.getD (Int.toNat (b1 - 1)) default)) || decide (((c.vapour.getD (Int.toNat b1) default).lo) < ((c.vapour.getD (Int.toNat (b1 - 1)) default).lo))))) :: Ob.when (decide (0 < b1) && (!(decide ((c.liquid.getD (Int.toNat b1) default) ≤ (c.liquid.getD (Int.toNat (b1 - 1)) default)) || decide (((c.vapour.getD (Int.toNat b1) default).lo) < ((c.vapour.getD (Int.toNat (b1 - 1)) default).lo))))) (.idx (b1 - 1) c.vapour.length) :: Ob.imp (decide (0 < b1) && (!(decide ((c.liquid.getD (Int.toNat b1) default) ≤ (c.liquid.getD (Int.toNat (b1 - 1)) default)) || decide (((c.vapour.getD (Int.toNat b1) default).lo) < ((c.vapour.getD (Int.toNat (b1 - 1)) default).lo))))) (decide (0 < b1) && (!(decide ((c.liquid.getD (Int.toNat b1) default) ≤ (c.liquid.getD (Int.toNat (b1 - 1)) default)) || decide (((c.vapour.getD (Int.toNat b1) default).lo) < ((c.vapour.getD (Int.toNat (b1 - 1)) default).lo))))) :: Ob.when (decide (0 < b1) && (!(decide ((c.liquid.getD (Int.toNat b1) default) ≤ (c.liquid.getD (Int.toNat (b1 - 1)) default)) || decide (((c.vapour.getD (Int.toNat b1) default).lo) < ((c.vapour.getD (Int.toNat (b1 - 1)) default).lo))))) (.idx (b1 - 1) c.vapour.length) :: Ob.imp (decide (0 < b1) && (!(decide ((c.liquid.getD (Int.toNat b1) default) ≤ (c.liquid.getD (Int.toNat (b1 - 1)) default)) || decide (((c.vapour.getD (Int.toNat b1) default).lo) < ((c.vapour.getD (Int.toNat (b1 - 1)) default).lo))))) (decide (0 < b1) && (!(decide ((c.liquid.getD (Int.toNat b1) default) ≤ (c.liquid.getD (Int.toNat (b1 - 1)) default)) || decide (((c.vapour.getD (Int.toNat b1) default).lo) < ((c.vapour.getD (Int.toNat (b1 - 1)) default).lo))))) :: Ob.imp (decide (0 < b1) && (!(decide ((c.liquid.getD (Int.toNat b1) default) ≤ (c.liquid.getD (Int.toNat (b1 - 1)) default)) || decide (((c.vapour.getD (Int.toNat b1) default).lo) < ((c.vapour.getD (Int.toNat (b1 - 1)) default).lo))))) (decide (0 < b1) && (!(decide ((c.liquid.getD (Int.toNat b1) default) ≤ (c.liquid.getD (Int.toNat (b1 - 1)) default)) || decide (((c.vapour.getD (Int.toNat b1) default).lo) < ((c.vapour.getD (Int.toNat (b1 - 1)) default).lo))))) :: Ob.imp (decide (0 < b1)) (decide (0 < b1)) :: Ob.when (decide (0 < b1)) (.imp (!(decide ((c.liquid.getD (Int.toNat b1) default) ≤ (c.liquid.getD (Int.toNat (b1 - 1)) default)) || decide (((c.vapour.getD (Int.toNat b1) default).lo) < ((c.vapour.getD (Int.toNat (b1 - 1)) default).lo)))) (decide (0 < b1) && (!(decide ((c.liquid.getD (Int.toNat b1) default) ≤ (c.liquid.getD (Int.toNat (b1 - 1)) default)) || decide (((c.vapour.getD (Int.toNat b1) default).lo) < ((c.vapour.getD (Int.toNat (b1 - 1)) default).lo)))))) :: Ob.imp (decide (0 < b1)) (decide (0 < b1)) :: []) S (by kernel_rfl) (by kernel_rfl) (by kernel_rfl) (by exact ⟨fun h => h, fun h => h, fun h => h, fun hW => (g4 hW), fun h => h, fun hW => (g4 hW), fun h => h, fun h => h, fun hW => rngI64 (g5 hW), fun h => h, fun h => h, fun hW => (g6 hW), fun h => h, fun hW => (g6 hW), fun h => h, fun h => h, fun h => h, fun h => h, fun h => h, fun h => h, fun hW => (g7 hW), fun h => h, fun hW => (g7 hW), fun h => h, fun hW => (g7 hW), fun h => h, fun h => h, fun hW => rngI64 (g8 hW), fun h => h, fun h => h, fun hW => (g9 hW), fun h => h, fun hW => (g9 hW), fun h => h, fun hW => (g9 hW), fun h => h, fun h => h, fun h => h, fun hW => (by intro h; simp_all), fun h => h, fun h => h, fun h => h, fun h => h, fun hW => (g10 hW), fun h => h, fun hW => (g10 hW), fun h => h, fun hW => (g10 hW), fun h => h, fun h => h, fun hW => rngI64 (g11 hW), fun h => h, fun h => h, fun hW => (g12 hW), fun h => h, fun hW => (g12 hW), fun h => h, fun hW => (g12 hW), fun h => h, fun h => h, fun h => h, fun hW => (by intro h; simp_all), fun h => h, trivial⟩) ?_
          clear S; intro E a w S
          refine sym_if_last (b := (decide (0 < b1) && ((decide ((c.liquid.getD (Int.toNat b1) default) ≤ (c.liquid.getD (Int.toNat (b1 - 1)) default)) || decide (((c.vapour.getD (Int.toNat b1) default).lo) < ((c.vapour.getD (Int.toNat (b1 - 1)) default).lo))) || decide (((c.vapour.getD (Int.toNat b1) default).hi) < ((c.vapour.getD (Int.toNat (b1 - 1)) default).hi))))) S rfl (fun hb4 => ?_) (fun hb4 => ?_)
          · have h := bif_t hb4 h
            refine sym_seq lay_ok mixed [] [2] [] (⟨[(2, .v (.bool false))], ⟨[], (wormtubref04_Curve_R c), []⟩⟩) [] S (by kernel_rfl) (by kernel_rfl) (by kernel_rfl) trivial ?_
            clear S; intro E a w S
            refine wp_ret ?_
            refine out_block_ret ?_
            refine out_then_ret ?_
            refine out_then_ret ?_
            refine out_block_ret ?_
            refine out_then_ret ?_
            refine out_then_ret ?_
            have hr := Option.some.inj h
            subst hr
            have hr := Option.some.inj hp1
            subst hr
            exact sym_ret lay_ok [.v (.bool false)] (by kernel_rfl) rfl S ⟨rfl, S.below rfl⟩
          · have h := bif_f hb4 h
            refine wp_skip ?_
            refine out_block_normal ?_
            refine out_then_normal ?_
            obtain ⟨g13, h⟩ := grd_some h
            refine sym_last lay_ok mixed [] [1, 3, 4] [0] (⟨[(1, .own 0 0), (3, .v (.int .i64 ((c.liquid.length : Nat) : Int))), (4, .v (.int .i64 (b1 + 1)))], ⟨[(0, .blk 25 [.sl 0, .sl 1])], (wormtubref04_Curve_R c), []⟩⟩) [.rng .i64 (b1 + 1)] S (by kernel_rfl) (by kernel_rfl) (by kernel_rfl) ⟨rngI64 g13, trivial⟩ ?_
            clear S; intro E a w S
            refine out_then_normal ?_
            exact ih (b1 + 1) _ _ _ h (St.cast (P := Go.Proofs.Try.prog) [] [] [1, 3, 4] [0] [0, 1] _ [] (by kernel_rfl) trivial S)
      · have h := bif_f hb2 h
        refine wp_exit ?_
        refine out_then_exit ?_
        refine out_then_exit ?_
        refine out_block_here ?_
        refine out_then_normal ?_
        have hr := Option.some.inj h
        subst hr
        exact ⟨_, (), hp1, St.cast (P := Go.Proofs.Try.prog) [] [] [1, 3] [0] [0, 1] _ [] (by kernel_rfl) trivial S⟩
    clear e2 S
    rintro a w ⟨E, x1, h, S⟩
    rw [wormtubref04_Curve_k1] at h
    refine out_then_normal ?_
    obtain ⟨⟨g14, g15, g16, g17⟩, h⟩ := grd_some h
    refine sym_seq lay_ok mixed [(6, { og := true }), (7, { og := true }), (8, { og := true }), (9, { og := true }), (10, { og := true }), (11, { og := true }), (12, { og := true }), (13, { pk := true }), (15, { og := true }), (16, { og := true }), (17, { og := true }), (18, { og := true }), (19, { og := true }), (20, { og := true }), (21, { pk := true })] [2] [] (⟨[(2, .v (.bool ((((c.liquid.getD (Int.toNat 0) default) == 0) && ((c.liquid.getD (Int.toNat (((c.liquid.length : Nat) : Int) - 1)) default) == 10000)) && (((c.vapour.getD (Int.toNat 0) default).lo) == 0))))], ⟨[], (wormtubref04_Curve_R c), []⟩⟩) [.idx 0 c.liquid.length, .idx 0 c.liquid.length, .imp ((c.liquid.getD (Int.toNat 0) default) == 0) ((c.liquid.getD (Int.toNat 0) default) == 0), .imp ((c.liquid.getD (Int.toNat 0) default) == 0) ((c.liquid.getD (Int.toNat 0) default) == 0), .when ((c.liquid.getD (Int.toNat 0) default) == 0) (.rng .i64 (((c.liquid.length : Nat) : Int) - 1)), .imp ((c.liquid.getD (Int.toNat 0) default) == 0) ((c.liquid.getD (Int.toNat 0) default) == 0), .imp ((c.liquid.getD (Int.toNat 0) default) == 0) ((c.liquid.getD (Int.toNat 0) default) == 0), .when ((c.liquid.getD (Int.toNat 0) default) == 0) (.idx (((c.liquid.length : Nat) : Int) - 1) c.liquid.length), .imp ((c.liquid.getD (Int.toNat 0) default) == 0) ((c.liquid.getD (Int.toNat 0) default) == 0), .when ((c.liquid.getD (Int.toNat 0) default) == 0) (.idx (((c.liquid.length : Nat) : Int) - 1) c.liquid.length), .imp ((c.liquid.getD (Int.toNat 0) default) == 0) ((c.liquid.getD (Int.toNat 0) default) == 0), .imp ((c.liquid.getD (Int.toNat 0) default) == 0) ((c.liquid.getD (Int.toNat 0) default) == 0), .imp (((c.liquid.getD (Int.toNat 0) default) == 0) && ((c.liquid.getD (Int.toNat (((c.liquid.length : Nat) : Int) - 1)) default) == 10000)) (((c.liquid.getD (Int.toNat 0) default) == 0) && ((c.liquid.getD (Int.toNat (((c.liquid.length : Nat) : Int) - 1)) default) == 10000)), .imp (((c.liquid.getD (Int.toNat 0) default) == 0) && ((c.liquid.getD (Int.toNat (((c.liquid.length : Nat) : Int) - 1)) default) == 10000)) (((c.liquid.getD (Int.toNat 0) default) == 0) && ((c.liquid.getD (Int.toNat (((c.liquid.length : Nat) : Int) - 1)) default) == 10000)), .when (((c.liquid.getD (Int.toNat 0) default) == 0) && ((c.liquid.getD (Int.toNat (((c.liquid.length : Nat) : Int) - 1)) default) == 10000)) (.idx 0 c.vapour.length), .imp (((c.liquid.getD (Int.toNat 0) default) == 0) && ((c.liquid.getD (Int.toNat (((c.liquid.length : Nat) : Int) - 1)) default) == 10000)) (((c.liquid.getD (Int.toNat 0) default) == 0) && ((c.liquid.getD (Int.toNat (((c.liquid.length : Nat) : Int) - 1)) default) == 10000)), .when (((c.liquid.getD (Int.toNat 0) default) == 0) && ((c.liquid.getD (Int.toNat (((c.liquid.length : Nat) : Int) - 1)) default) == 10000)) (.idx 0 c.vapour.length), .imp (((c.liquid.getD (Int.toNat 0) default) == 0) && ((c.liquid.getD (Int.toNat (((c.liquid.length : Nat) : Int) - 1)) default) == 10000)) (((c.liquid.getD (Int.toNat 0) default) == 0) && ((c.liquid.getD (Int.toNat (((c.liquid.length : Nat) : Int) - 1)) default) == 10000)), .when (((c.liquid.getD (Int.toNat 0) default) == 0) && ((c.liquid.getD (Int.toNat (((c.liquid.length : Nat) : Int) - 1)) default) == 10000)) (.idx 0 c.vapour.length), .imp (((c.liquid.getD (Int.toNat 0) default) == 0) && ((c.liquid.getD (Int.toNat (((c.liquid.length : Nat) : Int) - 1)) default) == 10000)) (((c.liquid.getD (Int.toNat 0) default) == 0) && ((c.liquid.getD (Int.toNat (((c.liquid.length : Nat) : Int) - 1)) default) == 10000)), .imp (((c.liquid.getD (Int.toNat 0) default) == 0) && ((c.liquid.getD (Int.toNat (((c.liquid.length : Nat) : Int) - 1)) default) == 10000)) (((c.liquid.getD (Int.toNat 0) default) == 0) && ((c.liquid.getD (Int.toNat (((c.liquid.length : Nat) : Int) - 1)) default) == 10000))] S (by kernel_rfl) (by kernel_rfl) (by kernel_rfl) (by exact ⟨g14, g14, fun h => h, fun h => h, fun hW => rngI64 (g15 hW), fun h => h, fun h => h, fun hW => (g16 hW), fun h => h, fun hW => (g16 hW), fun h => h, fun h => h, fun h => h, fun h => h, fun hW => (g17 hW), fun h => h, fun hW => (g17 hW), fun h => h, fun hW => (g17 hW), fun h => h, fun h => h, trivial⟩) ?_
    clear S; intro E a w S
    refine wp_ret ?_
    have h := Option.some.inj h
    subst h
    exact sym_ret lay_ok [.v (.bool ((((c.liquid.getD (Int.toNat 0) default) == 0) && ((c.liquid.getD (Int.toNat (((c.liquid.length : Nat) : Int) - 1)) default) == 10000)) && (((c.vapour.getD (Int.toNat 0) default).lo) == 0)))] (by kernel_rfl) rfl S ⟨rfl, S.below rfl⟩
def wormtubref04_Pot (p : MPot) : Option Bool :=
(wormtubref04_in p.volume 0 1073741824).bind fun (r1 : Bool) =>
((bif r1 then wormtubref04_Within (MSpan.mk p.alcohol.lo p.alcohol.hi) 0 p.volume else some default)).bind fun (r2 : Bool) =>
some (r1 && r2)
set_option maxRecDepth 100000 in
set_option maxHeartbeats 4000000 in
theorem wormtubref04_Pot_ok (p : MPot) (W : World)  (res : Bool) (h : wormtubref04_Pot p = some res) :
    Calls Go.Proofs.Try.prog 40 #[.agg #[.int .i64 p.volume, .int .i64 p.alcohol.lo, .int .i64 p.alcohol.hi]] W fun e w' => e = .returned (.bool res) ∧ Below W.heap.size W w' := by
  refine sym_call (f := 40) (fn := Go.Proofs.Try.f40) (c := Go.Proofs.Try.f40.body.get rfl) Go.Proofs.Try.func40 rfl [.agg [.v (.int .i64 p.volume), .v (.int .i64 p.alcohol.lo), .v (.int .i64 p.alcohol.hi)]] [] [] (envOf []) allR (fun _ _ => rfl) (by kernel_rfl) (envOf_one trivial) trivial (AllRR.all _ _) trivial fun E a w S => ?_
  rw [wormtubref04_Pot] at h
  refine sym_seq lay_ok mixed [(0, { g := 0 })] [1] [0] (⟨[(1, .own 0 0)], ⟨[(0, .blk 29 [.v (.int .i64 p.volume), .v (.int .i64 p.alcohol.lo), .v (.int .i64 p.alcohol.hi)])], [], []⟩⟩) [] S (by kernel_rfl) (by kernel_rfl) (by kernel_rfl) trivial ?_
  clear S; intro E a w S
  obtain ⟨r1, e1, h⟩ := bind_some h
  obtain ⟨r2, e2, h⟩ := bind_some h
  refine sym_seq lay_ok mixed [(2, { res := .v (.bool r1) }), (4, { og := true }), (5, { og := true }), (6, { og := true }), (7, { og := true }), (8, { og := true, res := .v (.bool r2) }), (9, { pk := true })] [2] [] (⟨[(2, .v (.bool (r1 && r2)))], ⟨[], [], []⟩⟩) [.call ⟨[], [], []⟩ 51 [.v (.int .i64 p.volume), .v (.int .i64 0), .v (.int .i64 1073741824)] (.v (.bool r1)), .imp r1 r1, .imp r1 r1, .imp r1 r1, .imp r1 r1, .when r1 (.call ⟨[], [], []⟩ 49 [.agg [.v (.int .i64 p.alcohol.lo), .v (.int .i64 p.alcohol.hi)], .v (.int .i64 0), .v (.int .i64 p.volume)] (.v (.bool r2))), .imp r1 r1] S (by kernel_rfl) (by kernel_rfl) (by kernel_rfl) ⟨⟨enters_51, fun _ W _ _ => wormtubref04_in_ok p.volume 0 1073741824 W r1 e1⟩, fun h => h, fun h => h, fun h => h, fun h => h, fun hW => ⟨enters_49, fun _ W _ _ => wormtubref04_Within_ok (MSpan.mk p.alcohol.lo p.alcohol.hi) 0 p.volume W r2 (bif_t hW e2)⟩, fun h => h, trivial⟩ ?_
  clear S; intro E a w S
  refine wp_ret ?_
  have h := Option.some.inj h
  subst h
  exact sym_ret lay_ok [.v (.bool (r1 && r2))] (by kernel_rfl) rfl S ⟨rfl, S.below rfl⟩
def wormtubref04_up (a0 : Int) (b : Int) : Option Int :=
grd (InI64 (a0 + b) ∧ InI64 ((a0 + b) - 1) ∧ ¬ b = 0 ∧ InI64 (((a0 + b) - 1).tdiv b)) <|
some (((a0 + b) - 1).tdiv b)
set_option maxRecDepth 100000 in
set_option maxHeartbeats 4000000 in
theorem wormtubref04_up_ok (a0 : Int) (b : Int) (W : World)  (res : Int) (h : wormtubref04_up a0 b = some res) :
    Calls Go.Proofs.Try.prog 60 #[.int .i64 a0, .int .i64 b] W fun e w' => e = .returned (.int .i64 res) ∧ Below W.heap.size W w' := by
  refine sym_call (f := 60) (fn := Go.Proofs.Try.f60) (c := Go.Proofs.Try.f60.body.get rfl) Go.Proofs.Try.func60 rfl [.v (.int .i64 a0), .v (.int .i64 b)] [] [] (envOf []) allR (fun _ _ => rfl) (by kernel_rfl) (envOf_one trivial) trivial (AllRR.all _ _) trivial fun E a w S => ?_
  rw [wormtubref04_up] at h
  refine sym_seq lay_ok mixed [] [0, 1] [] (⟨[(0, .v (.int .i64 a0)), (1, .v (.int .i64 b))], ⟨[], [], []⟩⟩) [] S (by kernel_rfl) (by kernel_rfl) (by kernel_rfl) trivial ?_
  clear S; intro E a w S
  obtain ⟨⟨g1, g2, g3, g4⟩, h⟩ := grd_some h
  refine sym_seq lay_ok mixed [] [4] [] (⟨[(4, .v (.int .i64 (((a0 + b) - 1).tdiv b)))], ⟨[], [], []⟩⟩) [.rng .i64 (a0 + b), .rng .i64 ((a0 + b) - 1), .nz b, .rng .i64 (((a0 + b) - 1).tdiv b)] S (by kernel_rfl) (by kernel_rfl) (by kernel_rfl) ⟨rngI64 g1, rngI64 g2, g3, rngI64 g4, trivial⟩ ?_
  clear S; intro E a w S
  refine wp_ret ?_
  have h := Option.some.inj h
  subst h
  exact sym_ret lay_ok [.v (.int .i64 (((a0 + b) - 1).tdiv b))] (by kernel_rfl) rfl S ⟨rfl, S.below rfl⟩
def wormtubref04_times (thick : Int) (wear : Int) (least : Int) : Option Int :=
(bif (wear == 0) then
(some (-1))
else
(grd (InI64 (thick - least) ∧ ¬ wear = 0 ∧ InI64 ((thick - least).tdiv wear)) <|
some ((thick - least).tdiv wear)))
set_option maxRecDepth 100000 in
set_option maxHeartbeats 4000000 in
theorem wormtubref04_times_ok (thick : Int) (wear : Int) (least : Int) (W : World)  (res : Int) (h : wormtubref04_times thick wear least = some res) :
    Calls Go.Proofs.Try.prog 62 #[.int .i64 thick, .int .i64 wear, .int .i64 least] W fun e w' => e = .returned (.int .i64 res) ∧ Below W.heap.size W w' := by
  refine sym_call (f := 62) (fn := Go.Proofs.Try.f62) (c := Go.Proofs.Try.f62.body.get rfl) Go.Proofs.Try.func62 rfl [.v (.int .i64 thick), .v (.int .i64 wear), .v (.int .i64 least)] [] [] (envOf []) allR (fun _ _ => rfl) (by kernel_rfl) (envOf_one trivial) trivial (AllRR.all _ _) trivial fun E a w S => ?_
  rw [wormtubref04_times] at h
  refine sym_seq lay_ok mixed [] [0, 1, 2] [] (⟨[(0, .v (.int .i64 thick)), (1, .v (.int .i64 wear)), (2, .v (.int .i64 least))], ⟨[], [], []⟩⟩) [] S (by kernel_rfl) (by kernel_rfl) (by kernel_rfl) trivial ?_
  clear S; intro E a w S
  refine wp_seq ?_
  refine sym_seq lay_ok mixed [] [0, 1, 2, 8] [] (⟨[(0, .v (.int .i64 thick)), (1, .v (.int .i64 wear)), (2, .v (.int .i64 least)), (8, .v (.bool (wear == 0)))], ⟨[], [], []⟩⟩) [] S (by kernel_rfl) (by kernel_rfl) (by kernel_rfl) trivial ?_
  clear S; intro E a w S
  refine sym_if_last (b := (wear == 0)) S rfl (fun hb1 => ?_) (fun hb1 => ?_)
  · have h := bif_t hb1 h
    refine sym_seq lay_ok mixed [] [6] [] (⟨[(6, .v (.int .i64 (-1)))], ⟨[], [], []⟩⟩) [] S (by kernel_rfl) (by kernel_rfl) (by kernel_rfl) trivial ?_
    clear S; intro E a w S
    refine wp_ret ?_
    refine out_then_ret ?_
    have h := Option.some.inj h
    subst h
    exact sym_ret lay_ok [.v (.int .i64 (-1))] (by kernel_rfl) rfl S ⟨rfl, S.below rfl⟩
  · have h := bif_f hb1 h
    refine wp_skip ?_
    refine out_then_normal ?_
    obtain ⟨⟨g1, g2, g3⟩, h⟩ := grd_some h
    refine sym_seq lay_ok mixed [] [6] [] (⟨[(6, .v (.int .i64 ((thick - least).tdiv wear)))], ⟨[], [], []⟩⟩) [.rng .i64 (thick - least), .nz wear, .rng .i64 ((thick - least).tdiv wear)] S (by kernel_rfl) (by kernel_rfl) (by kernel_rfl) ⟨rngI64 g1, g2, rngI64 g3, trivial⟩ ?_
    clear S; intro E a w S
    refine wp_ret ?_
    have h := Option.some.inj h
    subst h
    exact sym_ret lay_ok [.v (.int .i64 ((thick - least).tdiv wear))] (by kernel_rfl) rfl S ⟨rfl, S.below rfl⟩
def wormtubref04_strong (alcohol : MSpan) (volume : Int) : Option MSpan :=
(bif (volume == 0) then
(some (MSpan.mk 0 0))
else
(grd (InI64 (alcohol.lo * 10000) ∧ ¬ volume = 0 ∧ InI64 ((alcohol.lo * 10000).tdiv volume) ∧ InI64 (alcohol.hi * 10000)) <|
(wormtubref04_up (alcohol.hi * 10000) volume).bind fun (r1 : Int) =>
some (MSpan.mk ((alcohol.lo * 10000).tdiv volume) r1)))
set_option maxRecDepth 100000 in
set_option maxHeartbeats 4000000 in
theorem wormtubref04_strong_ok (alcohol : MSpan) (volume : Int) (W : World)  (res : MSpan) (h : wormtubref04_strong alcohol volume = some res) :
    Calls Go.Proofs.Try.prog 58 #[.agg #[.int .i64 alcohol.lo, .int .i64 alcohol.hi], .int .i64 volume] W fun e w' => e = .returned (.agg #[.int .i64 res.lo, .int .i64 res.hi]) ∧ Below W.heap.size W w' := by
  refine sym_call (f := 58) (fn := Go.Proofs.Try.f58) (c := Go.Proofs.Try.f58.body.get rfl) Go.Proofs.Try.func58 rfl [.agg [.v (.int .i64 alcohol.lo), .v (.int .i64 alcohol.hi)], .v (.int .i64 volume)] [] [] (envOf []) allR (fun _ _ => rfl) (by kernel_rfl) (envOf_one trivial) trivial (AllRR.all _ _) trivial fun E a w S => ?_
  rw [wormtubref04_strong] at h
  refine sym_seq lay_ok mixed [(0, { g := 0 }), (1, { g := 1 })] [1, 2, 4] [0, 1] (⟨[(1, .v (.int .i64 volume)), (2, .own 0 0), (4, .own 1 0)], ⟨[(0, .blk 27 [.v (.int .i64 alcohol.lo), .v (.int .i64 alcohol.hi)]), (1, .blk 27 [.v (.int .i64 0), .v (.int .i64 0)])], [], []⟩⟩) [] S (by kernel_rfl) (by kernel_rfl) (by kernel_rfl) trivial ?_
  clear S; intro E a w S
  refine wp_seq ?_
  refine sym_seq lay_ok mixed [] [1, 2, 4, 6] [0, 1] (⟨[(1, .v (.int .i64 volume)), (2, .own 0 0), (4, .own 1 0), (6, .v (.bool (volume == 0)))], ⟨[(0, .blk 27 [.v (.int .i64 alcohol.lo), .v (.int .i64 alcohol.hi)]), (1, .blk 27 [.v (.int .i64 0), .v (.int .i64 0)])], [], []⟩⟩) [] S (by kernel_rfl) (by kernel_rfl) (by kernel_rfl) trivial ?_
  clear S; intro E a w S
  refine sym_if_last (b := (volume == 0)) S rfl (fun hb1 => ?_) (fun hb1 => ?_)
  · have h := bif_t hb1 h
    refine sym_seq lay_ok mixed [] [4] [1] (⟨[(4, .own 1 0)], ⟨[(1, .blk 27 [.v (.int .i64 0), .v (.int .i64 0)])], [], []⟩⟩) [] S (by kernel_rfl) (by kernel_rfl) (by kernel_rfl) trivial ?_
    clear S; intro E a w S
    refine wp_ret ?_
    refine out_then_ret ?_
    have h := Option.some.inj h
    subst h
    exact sym_ret lay_ok [.agg [.v (.int .i64 0), .v (.int .i64 0)]] (by kernel_rfl) rfl S ⟨rfl, S.below rfl⟩
  · have h := bif_f hb1 h
    refine wp_skip ?_
    refine out_then_normal ?_
    obtain ⟨⟨g1, g2, g3, g4⟩, h⟩ := grd_some h
    obtain ⟨r1, e1, h⟩ := bind_some h
    refine sym_seq lay_ok mixed [(9, { res := .v (.int .i64 r1) })] [4] [1] (⟨[(4, .own 1 0)], ⟨[(1, .blk 27 [.v (.int .i64 ((alcohol.lo * 10000).tdiv volume)), .v (.int .i64 r1)])], [], []⟩⟩) [.rng .i64 (alcohol.lo * 10000), .nz volume, .rng .i64 ((alcohol.lo * 10000).tdiv volume), .rng .i64 (alcohol.hi * 10000), .call ⟨[], [], []⟩ 60 [.v (.int .i64 (alcohol.hi * 10000)), .v (.int .i64 volume)] (.v (.int .i64 r1))] S (by kernel_rfl) (by kernel_rfl) (by kernel_rfl) ⟨rngI64 g1, g2, rngI64 g3, rngI64 g4, ⟨enters_60, fun _ W _ _ => wormtubref04_up_ok (alcohol.hi * 10000) volume W r1 e1⟩, trivial⟩ ?_
    clear S; intro E a w S
    refine wp_ret ?_
    have h := Option.some.inj h
    subst h
    exact sym_ret lay_ok [.agg [.v (.int .i64 ((alcohol.lo * 10000).tdiv volume)), .v (.int .i64 r1)]] (by kernel_rfl) rfl S ⟨rfl, S.below rfl⟩
def wormtubref04_Line_R (c : MCurve) : List (Nat × Q) := [(0, ⟨c.liquid.length, 1, fun i => [.int .i64 (c.liquid.getD i default)]⟩), (1, ⟨c.vapour.length, 2, fun i => [.int .i64 ((c.vapour.getD i default).lo), .int .i64 ((c.vapour.getD i default).hi)]⟩)]
def wormtubref04_Line_k1 (c : MCurve) (high : Bool) (num : Int) (den : Int) (x1 : Int) : Option (Int × Int) :=
grd (((0 : Int) ≤ x1 ∧ (x1 : Int) < ((c.vapour.length : Nat) : Int)) ∧ InI64 (x1 + 1) ∧ ((0 : Int) ≤ (x1 + 1) ∧ ((x1 + 1) : Int) < ((c.vapour.length : Nat) : Int))) <|
(bif high then
(grd (InI64 (x1 + 1)) <|
some ((c.vapour.getD (Int.toNat x1) default).hi, (c.vapour.getD (Int.toNat (x1 + 1)) default).hi))
else
(some ((c.vapour.getD (Int.toNat x1) default).lo, (c.vapour.getD (Int.toNat (x1 + 1)) default).lo))).bind fun (j1 : Int × Int) =>
grd (InI64 (x1 + 1) ∧ ((0 : Int) ≤ (x1 + 1) ∧ ((x1 + 1) : Int) < ((c.liquid.length : Nat) : Int)) ∧ ((0 : Int) ≤ x1 ∧ (x1 : Int) < ((c.liquid.length : Nat) : Int)) ∧ InI64 ((c.liquid.getD (Int.toNat (x1 + 1)) default) - (c.liquid.getD (Int.toNat x1) default))) <|
grd (InI64 (j1.1 * ((c.liquid.getD (Int.toNat (x1 + 1)) default) - (c.liquid.getD (Int.toNat x1) default))) ∧ InI64 ((j1.1 * ((c.liquid.getD (Int.toNat (x1 + 1)) default) - (c.liquid.getD (Int.toNat x1) default))) * den) ∧ InI64 (j1.2 - j1.1) ∧ InI64 ((c.liquid.getD (Int.toNat x1) default) * den) ∧ InI64 (num - ((c.liquid.getD (Int.toNat x1) default) * den)) ∧ InI64 ((j1.2 - j1.1) * (num - ((c.liquid.getD (Int.toNat x1) default) * den))) ∧ InI64 (((j1.1 * ((c.liquid.getD (Int.toNat (x1 + 1)) default) - (c.liquid.getD (Int.toNat x1) default))) * den) + ((j1.2 - j1.1) * (num - ((c.liquid.getD (Int.toNat x1) default) * den)))) ∧ InI64 (((c.liquid.getD (Int.toNat (x1 + 1)) default) - (c.liquid.getD (Int.toNat x1) default)) * den)) <|
some ((((j1.1 * ((c.liquid.getD (Int.toNat (x1 + 1)) default) - (c.liquid.getD (Int.toNat x1) default))) * den) + ((j1.2 - j1.1) * (num - ((c.liquid.getD (Int.toNat x1) default) * den)))), (((c.liquid.getD (Int.toNat (x1 + 1)) default) - (c.liquid.getD (Int.toNat x1) default)) * den))
def wormtubref04_Line_l1 (c : MCurve) (num : Int) (den : Int) : Nat → Int → Option (Lp Int (Int × Int))
  | 0, _ => none
  | n + 1, b1 =>
    grd (InI64 (b1 + 2) ∧ (decide ((b1 + 2) < ((c.liquid.length : Nat) : Int)) = true → InI64 (b1 + 1)) ∧ (decide ((b1 + 2) < ((c.liquid.length : Nat) : Int)) = true → ((0 : Int) ≤ (b1 + 1) ∧ ((b1 + 1) : Int) < ((c.liquid.length : Nat) : Int))) ∧ (decide ((b1 + 2) < ((c.liquid.length : Nat) : Int)) = true → InI64 ((c.liquid.getD (Int.toNat (b1 + 1)) default) * den))) <|
    (bif (decide ((b1 + 2) < ((c.liquid.length : Nat) : Int)) && decide (((c.liquid.getD (Int.toNat (b1 + 1)) default) * den) ≤ num)) then
    (grd (InI64 (b1 + 1)) <|
    wormtubref04_Line_l1 c num den n (b1 + 1))
    else
    (some (Lp.done b1)))
def wormtubref04_Line (fuel : Nat) (c : MCurve) (high : Bool) (num : Int) (den : Int) : Option (Int × Int) :=
(wormtubref04_Line_l1 c num den fuel 0).bind fun lr1 => lr1.go fun x1 => wormtubref04_Line_k1 c high num den x1
set_option maxRecDepth 100000 in
set_option maxHeartbeats 4000000 in
theorem wormtubref04_Line_ok (fuel : Nat) (c : MCurve) (high : Bool) (num : Int) (den : Int) (W : World) (A0 : Option Addr) (c0 : Nat) (h0 : c.liquid.length ≤ c0) (s0 : SlAt W A0 c.liquid.length 1 fun i => [.int .i64 (c.liquid.getD i default)]) (A1 : Option Addr) (c1 : Nat) (h1 : c.vapour.length ≤ c1) (s1 : SlAt W A1 c.vapour.length 2 fun i => [.int .i64 ((c.vapour.getD i default).lo), .int .i64 ((c.vapour.getD i default).hi)]) (res : Int × Int) (h : wormtubref04_Line fuel c high num den = some res) :
    Calls Go.Proofs.Try.prog 64 #[.agg #[.slice A0 c.liquid.length c0, .slice A1 c.vapour.length c1], .bool high, .int .i64 num, .int .i64 den] W fun e w' => e = .returned (.tuple #[.int .i64 res.1, .int .i64 res.2]) ∧ Below W.heap.size W w' := by
  refine sym_call (f := 64) (fn := Go.Proofs.Try.f64) (c := Go.Proofs.Try.f64.body.get rfl) Go.Proofs.Try.func64 rfl [.agg [.sl 0, .sl 1], .v (.bool high), .v (.int .i64 num), .v (.int .i64 den)] (wormtubref04_Line_R c) [] (envOf [(0, ⟨A0, c.liquid.length, c0, 1⟩), (1, ⟨A1, c.vapour.length, c1, 2⟩)]) allR (fun _ _ => rfl) (by kernel_rfl) (envOf_one trivial) ⟨s0.rd h0, s1.rd h1, trivial⟩ (AllRR.all _ _) trivial fun E a w S => ?_
  rw [wormtubref04_Line] at h
  refine sym_seq lay_ok mixed [(0, { g := 0 })] [1, 2, 3, 4] [0] (⟨[(1, .v (.bool high)), (2, .v (.int .i64 num)), (3, .v (.int .i64 den)), (4, .own 0 0)], ⟨[(0, .blk 25 [.sl 0, .sl 1])], (wormtubref04_Line_R c), []⟩⟩) [] S (by kernel_rfl) (by kernel_rfl) (by kernel_rfl) trivial ?_
  clear S; intro E a w S
  refine sym_seq lay_ok mixed [] [1, 2, 3, 4, 10] [0] (⟨[(1, .v (.bool high)), (2, .v (.int .i64 num)), (3, .v (.int .i64 den)), (4, .own 0 0), (10, .v (.int .i64 0))], ⟨[(0, .blk 25 [.sl 0, .sl 1])], (wormtubref04_Line_R c), []⟩⟩) [] S (by kernel_rfl) (by kernel_rfl) (by kernel_rfl) trivial ?_
  clear S; intro E a w S
  obtain ⟨lr1, e1, hp1⟩ := bind_some h
  clear h
  refine sym_block_meet (G := fun a w => ∃ E, ∃ x1 : Int, wormtubref04_Line_k1 c high num den x1 = some res ∧ St ⟨W, noC, Go.Proofs.Try.f64.ntmps, [], allR, noρ, (envOf [(0, ⟨A0, c.liquid.length, c0, 1⟩), (1, ⟨A1, c.vapour.length, c1, 2⟩)]).sl, (envOf [(0, ⟨A0, c.liquid.length, c0, 1⟩), (1, ⟨A1, c.vapour.length, c1, 2⟩)]).x⟩ (⟨[(1, .v (.bool high)), (2, .v (.int .i64 num)), (3, .v (.int .i64 den)), (4, .own 0 0), (10, .v (.int .i64 x1))], ⟨[(0, .blk 25 [.sl 0, .sl 1])], (wormtubref04_Line_R c), []⟩⟩) E a w) ?_ ?_
  · refine wp_loop_rounds fuel ?_
    refine sym_rounds (F := fun n b1 => wormtubref04_Line_l1 c num den n b1 = some lr1) (H := fun b1 => ⟨[(1, .v (.bool high)), (2, .v (.int .i64 num)), (3, .v (.int .i64 den)), (4, .own 0 0), (10, .v (.int .i64 b1))], ⟨[(0, .blk 25 [.sl 0, .sl 1])], (wormtubref04_Line_R c), []⟩⟩) 0 (fun b hb => by have hb : none = some lr1 := hb; cases hb) ?_ _ _ _ _ e1 (St.cast (P := Go.Proofs.Try.prog) [] [] [1, 2, 3, 4, 10] [0] [0, 1] _ [] (by kernel_rfl) trivial S)
    clear e1 S
    intro n b1 E a w h ih S
    rw [wormtubref04_Line_l1] at h
    refine wp_seq ?_
    obtain ⟨⟨g1, g2, g3, g4⟩, h⟩ := grd_some h
    refine sym_seq lay_ok mixed [(7, { og := true }), (8, { og := true }), (9, { og := true }), (10, { og := true }), (11, { og := true }), (12, { og := true }), (13, { og := true }), (14, { og := true }), (15, { og := true }), (16, { og := true }), (17, { pk := true })] [1, 2, 3, 4, 10, 31] [0] (⟨[(1, .v (.bool high)), (2, .v (.int .i64 num)), (3, .v (.int .i64 den)), (4, .own 0 0), (10, .v (.int .i64 b1)), (31, .v (.bool (decide ((b1 + 2) < ((c.liquid.length : Nat) : Int)) && decide (((c.liquid.getD (Int.toNat (b1 + 1)) default) * den) ≤ num))))], ⟨[(0, .blk 25 [.sl 0, .sl 1])], (wormtubref04_Line_R c), []⟩⟩) [.rng .i64 (b1 + 2), .imp (decide ((b1 + 2) < ((c.liquid.length : Nat) : Int))) (decide ((b1 + 2) < ((c.liquid.length : Nat) : Int))), .imp (decide ((b1 + 2) < ((c.liquid.length : Nat) : Int))) (decide ((b1 + 2) < ((c.liquid.length : Nat) : Int))), .when (decide ((b1 + 2) < ((c.liquid.length : Nat) : Int))) (.rng .i64 (b1 + 1)), .imp (decide ((b1 + 2) < ((c.liquid.length : Nat) : Int))) (decide ((b1 + 2) < ((c.liquid.length : Nat) : Int))), .imp (decide ((b1 + 2) < ((c.liquid.length : Nat) : Int))) (decide ((b1 + 2) < ((c.liquid.length : Nat) : Int))), .when (decide ((b1 + 2) < ((c.liquid.length : Nat) : Int))) (.idx (b1 + 1) c.liquid.length), .imp (decide ((b1 + 2) < ((c.liquid.length : Nat) : Int))) (decide ((b1 + 2) < ((c.liquid.length : Nat) : Int))), .when (decide ((b1 + 2) < ((c.liquid.length : Nat) : Int))) (.idx (b1 + 1) c.liquid.length), .imp (decide ((b1 + 2) < ((c.liquid.length : Nat) : Int))) (decide ((b1 + 2) < ((c.liquid.length : Nat) : Int))), .imp (decide ((b1 + 2) < ((c.liquid.length : Nat) : Int))) (decide ((b1 + 2) < ((c.liquid.length : Nat) : Int))), .when (decide ((b1 + 2) < ((c.liquid.length : Nat) : Int))) (.rng .i64 ((c.liquid.getD (Int.toNat (b1 + 1)) default) * den)), .imp (decide ((b1 + 2) < ((c.liquid.length : Nat) : Int))) (decide ((b1 + 2) < ((c.liquid.length : Nat) : Int))), .imp (decide ((b1 + 2) < ((c.liquid.length : Nat) : Int))) (decide ((b1 + 2) < ((c.liquid.length : Nat) : Int))), .imp (decide ((b1 + 2) < ((c.liquid.length : Nat) : Int))) (decide ((b1 + 2) < ((c.liquid.length : Nat) : Int)))] S (by kernel_rfl) (by kernel_rfl) (by kernel_rfl) ⟨rngI64 g1, fun h => h, fun h => h, fun hW => rngI64 (g2 hW), fun h => h, fun h => h, fun hW => (g3 hW), fun h => h, fun hW => (g3 hW), fun h => h, fun h => h, fun hW => rngI64 (g4 hW), fun h => h, fun h => h, fun h => h, trivial⟩ ?_
    clear S; intro E a w S
    refine sym_if_last (b := (decide ((b1 + 2) < ((c.liquid.length : Nat) : Int)) && decide (((c.liquid.getD (Int.toNat (b1 + 1)) default) * den) ≤ num))) S rfl (fun hb1 => ?_) (fun hb1 => ?_)
    · have h := bif_t hb1 h
      refine wp_skip ?_
      refine out_then_normal ?_
      refine wp_block ?_
      obtain ⟨g5, h⟩ := grd_some h
      refine sym_last lay_ok mixed [] [1, 2, 3, 4, 10] [0] (⟨[(1, .v (.bool high)), (2, .v (.int .i64 num)), (3, .v (.int .i64 den)), (4, .own 0 0), (10, .v (.int .i64 (b1 + 1)))], ⟨[(0, .blk 25 [.sl 0, .sl 1])], (wormtubref04_Line_R c), []⟩⟩) [.rng .i64 (b1 + 1)] S (by kernel_rfl) (by kernel_rfl) (by kernel_rfl) ⟨rngI64 g5, trivial⟩ ?_
      clear S; intro E a w S
      refine out_block_normal ?_
      refine out_then_normal ?_
      exact ih (b1 + 1) _ _ _ h (St.cast (P := Go.Proofs.Try.prog) [] [] [1, 2, 3, 4, 10] [0] [0, 1] _ [] (by kernel_rfl) trivial S)
    · have h := bif_f hb1 h
      refine wp_exit ?_
      refine out_then_exit ?_
      refine out_then_exit ?_
      refine out_block_here ?_
      refine out_then_normal ?_
      have hr := Option.some.inj h
      subst hr
      exact ⟨_, b1, hp1, St.cast (P := Go.Proofs.Try.prog) [] [] [1, 2, 3, 4, 10] [0] [0, 1] _ [] (by kernel_rfl) trivial S⟩
  clear e1 S
  rintro a w ⟨E, x1, h, S⟩
  rw [wormtubref04_Line_k1] at h
  obtain ⟨⟨g6, g7, g8⟩, h⟩ := grd_some h
  refine sym_seq lay_ok mixed [] [1, 2, 3, 4, 10, 11, 12] [0] (⟨[(1, .v (.bool high)), (2, .v (.int .i64 num)), (3, .v (.int .i64 den)), (4, .own 0 0), (10, .v (.int .i64 x1)), (11, .v (.int .i64 ((c.vapour.getD (Int.toNat x1) default).lo))), (12, .v (.int .i64 ((c.vapour.getD (Int.toNat (x1 + 1)) default).lo)))], ⟨[(0, .blk 25 [.sl 0, .sl 1])], (wormtubref04_Line_R c), []⟩⟩) [.idx x1 c.vapour.length, .idx x1 c.vapour.length, .idx x1 c.vapour.length, .rng .i64 (x1 + 1), .idx (x1 + 1) c.vapour.length, .idx (x1 + 1) c.vapour.length, .idx (x1 + 1) c.vapour.length] S (by kernel_rfl) (by kernel_rfl) (by kernel_rfl) ⟨g6, g6, g6, rngI64 g7, g8, g8, g8, trivial⟩ ?_
  clear S; intro E a w S
  refine wp_seq ?_
  refine sym_seq lay_ok mixed [] [2, 3, 4, 10, 11, 12, 47] [0] (⟨[(2, .v (.int .i64 num)), (3, .v (.int .i64 den)), (4, .own 0 0), (10, .v (.int .i64 x1)), (11, .v (.int .i64 ((c.vapour.getD (Int.toNat x1) default).lo))), (12, .v (.int .i64 ((c.vapour.getD (Int.toNat (x1 + 1)) default).lo))), (47, .v (.bool high))], ⟨[(0, .blk 25 [.sl 0, .sl 1])], (wormtubref04_Line_R c), []⟩⟩) [] S (by kernel_rfl) (by kernel_rfl) (by kernel_rfl) trivial ?_
  clear S; intro E a w S
  obtain ⟨j1, e2, h⟩ := bind_some h
  refine sym_meet_last (b := high) (⟨[(2, .v (.int .i64 num)), (3, .v (.int .i64 den)), (4, .own 0 0), (10, .v (.int .i64 x1)), (11, .v (.int .i64 j1.1)), (12, .v (.int .i64 j1.2))], ⟨[(0, .blk 25 [.sl 0, .sl 1])], (wormtubref04_Line_R c), []⟩⟩) S rfl (fun hb2 => ?_) (fun hb2 => ?_) ?_
  · clear h; have h := bif_t hb2 e2
    obtain ⟨g9, h⟩ := grd_some h
    refine sym_last lay_ok mixed [] [2, 3, 4, 10, 11, 12] [0] (⟨[(2, .v (.int .i64 num)), (3, .v (.int .i64 den)), (4, .own 0 0), (10, .v (.int .i64 x1)), (11, .v (.int .i64 ((c.vapour.getD (Int.toNat x1) default).hi))), (12, .v (.int .i64 ((c.vapour.getD (Int.toNat (x1 + 1)) default).hi)))], ⟨[(0, .blk 25 [.sl 0, .sl 1])], (wormtubref04_Line_R c), []⟩⟩) [.idx x1 c.vapour.length, .idx x1 c.vapour.length, .idx x1 c.vapour.length, .rng .i64 (x1 + 1), .idx (x1 + 1) c.vapour.length, .idx (x1 + 1) c.vapour.length, .idx (x1 + 1) c.vapour.length] S (by kernel_rfl) (by kernel_rfl) (by kernel_rfl) ⟨g6, g6, g6, rngI64 g9, g8, g8, g8, trivial⟩ ?_
    clear S; intro E a w S
    have hj := Option.some.inj h
    subst hj
    refine out_then_normal ?_
    exact ⟨_, St.cast (P := Go.Proofs.Try.prog) [] [] [2, 3, 4, 10, 11, 12] [0] [0, 1] _ [] (by kernel_rfl) trivial S⟩
  · clear h; have h := bif_f hb2 e2
    refine wp_skip ?_
    have hj := Option.some.inj h
    subst hj
    refine out_then_normal ?_
    exact ⟨_, St.cast (P := Go.Proofs.Try.prog) [] [] [2, 3, 4, 10, 11, 12] [0] [0, 1] _ [] (by kernel_rfl) trivial S⟩
  clear S; intro E a w S
  refine out_then_normal ?_
  obtain ⟨⟨g10, g11, g12, g13⟩, h⟩ := grd_some h
  refine sym_seq lay_ok mixed [] [2, 3, 4, 10, 11, 12, 13] [0] (⟨[(2, .v (.int .i64 num)), (3, .v (.int .i64 den)), (4, .own 0 0), (10, .v (.int .i64 x1)), (11, .v (.int .i64 j1.1)), (12, .v (.int .i64 j1.2)), (13, .v (.int .i64 ((c.liquid.getD (Int.toNat (x1 + 1)) default) - (c.liquid.getD (Int.toNat x1) default))))], ⟨[(0, .blk 25 [.sl 0, .sl 1])], (wormtubref04_Line_R c), []⟩⟩) [.rng .i64 (x1 + 1), .idx (x1 + 1) c.liquid.length, .idx (x1 + 1) c.liquid.length, .idx x1 c.liquid.length, .idx x1 c.liquid.length, .rng .i64 ((c.liquid.getD (Int.toNat (x1 + 1)) default) - (c.liquid.getD (Int.toNat x1) default))] S (by kernel_rfl) (by kernel_rfl) (by kernel_rfl) ⟨rngI64 g10, g11, g11, g12, g12, rngI64 g13, trivial⟩ ?_
  clear S; intro E a w S
  obtain ⟨⟨g14, g15, g16, g17, g18, g19, g20, g21⟩, h⟩ := grd_some h
  refine sym_seq lay_ok mixed [] [8, 9] [] (⟨[(8, .v (.int .i64 (((j1.1 * ((c.liquid.getD (Int.toNat (x1 + 1)) default) - (c.liquid.getD (Int.toNat x1) default))) * den) + ((j1.2 - j1.1) * (num - ((c.liquid.getD (Int.toNat x1) default) * den)))))), (9, .v (.int .i64 (((c.liquid.getD (Int.toNat (x1 + 1)) default) - (c.liquid.getD (Int.toNat x1) default)) * den)))], ⟨[], (wormtubref04_Line_R c), []⟩⟩) [.rng .i64 (j1.1 * ((c.liquid.getD (Int.toNat (x1 + 1)) default) - (c.liquid.getD (Int.toNat x1) default))), .rng .i64 ((j1.1 * ((c.liquid.getD (Int.toNat (x1 + 1)) default) - (c.liquid.getD (Int.toNat x1) default))) * den), .rng .i64 (j1.2 - j1.1), .idx x1 c.liquid.length, .idx x1 c.liquid.length, .rng .i64 ((c.liquid.getD (Int.toNat x1) default) * den), .rng .i64 (num - ((c.liquid.getD (Int.toNat x1) default) * den)), .rng .i64 ((j1.2 - j1.1) * (num - ((c.liquid.getD (Int.toNat x1) default) * den))), .rng .i64 (((j1.1 * ((c.liquid.getD (Int.toNat (x1 + 1)) default) - (c.liquid.getD (Int.toNat x1) default))) * den) + ((j1.2 - j1.1) * (num - ((c.liquid.getD (Int.toNat x1) default) * den)))), .rng .i64 (((c.liquid.getD (Int.toNat (x1 + 1)) default) - (c.liquid.getD (Int.toNat x1) default)) * den)] S (by kernel_rfl) (by kernel_rfl) (by kernel_rfl) ⟨rngI64 g14, rngI64 g15, rngI64 g16, g12, g12, rngI64 g17, rngI64 g18, rngI64 g19, rngI64 g20, rngI64 g21, trivial⟩ ?_
  clear S; intro E a w S
  refine wp_ret ?_
  have h := Option.some.inj h
  subst h
  exact sym_ret lay_ok [.v (.int .i64 (((j1.1 * ((c.liquid.getD (Int.toNat (x1 + 1)) default) - (c.liquid.getD (Int.toNat x1) default))) * den) + ((j1.2 - j1.1) * (num - ((c.liquid.getD (Int.toNat x1) default) * den))))), .v (.int .i64 (((c.liquid.getD (Int.toNat (x1 + 1)) default) - (c.liquid.getD (Int.toNat x1) default)) * den))] (by kernel_rfl) rfl S ⟨rfl, S.below rfl⟩
def wormtubref04_vapour_R (c : MCurve) : List (Nat × Q) := [(0, ⟨c.liquid.length, 1, fun i => [.int .i64 (c.liquid.getD i default)]⟩), (1, ⟨c.vapour.length, 2, fun i => [.int .i64 ((c.vapour.getD i default).lo), .int .i64 ((c.vapour.getD i default).hi)]⟩)]
def wormtubref04_vapour (fuel : Nat) (c : MCurve) (s : MSpan) : Option MSpan :=
(wormtubref04_Line fuel c false s.lo 1).bind fun (r1 : (Int × Int)) =>
(wormtubref04_Line fuel c true s.hi 1).bind fun (r2 : (Int × Int)) =>
grd (¬ r1.2 = 0 ∧ InI64 (r1.1.tdiv r1.2)) <|
(wormtubref04_up r2.1 r2.2).bind fun (r3 : Int) =>
some (MSpan.mk (r1.1.tdiv r1.2) r3)
set_option maxRecDepth 100000 in
set_option maxHeartbeats 4000000 in
theorem wormtubref04_vapour_ok (fuel : Nat) (c : MCurve) (s : MSpan) (W : World) (A0 : Option Addr) (c0 : Nat) (h0 : c.liquid.length ≤ c0) (s0 : SlAt W A0 c.liquid.length 1 fun i => [.int .i64 (c.liquid.getD i default)]) (A1 : Option Addr) (c1 : Nat) (h1 : c.vapour.length ≤ c1) (s1 : SlAt W A1 c.vapour.length 2 fun i => [.int .i64 ((c.vapour.getD i default).lo), .int .i64 ((c.vapour.getD i default).hi)]) (res : MSpan) (h : wormtubref04_vapour fuel c s = some res) :
    Calls Go.Proofs.Try.prog 50 #[.agg #[.slice A0 c.liquid.length c0, .slice A1 c.vapour.length c1], .agg #[.int .i64 s.lo, .int .i64 s.hi]] W fun e w' => e = .returned (.agg #[.int .i64 res.lo, .int .i64 res.hi]) ∧ Below W.heap.size W w' := by
  refine sym_call (f := 50) (fn := Go.Proofs.Try.f50) (c := Go.Proofs.Try.f50.body.get rfl) Go.Proofs.Try.func50 rfl [.agg [.sl 0, .sl 1], .agg [.v (.int .i64 s.lo), .v (.int .i64 s.hi)]] (wormtubref04_vapour_R c) [] (envOf [(0, ⟨A0, c.liquid.length, c0, 1⟩), (1, ⟨A1, c.vapour.length, c1, 2⟩)]) allR (fun _ _ => rfl) (by kernel_rfl) (envOf_one trivial) ⟨s0.rd h0, s1.rd h1, trivial⟩ (AllRR.all _ _) trivial fun E a w S => ?_
  rw [wormtubref04_vapour] at h
  refine sym_seq lay_ok mixed [(0, { g := 0 }), (1, { g := 1 }), (2, { g := 2 })] [2, 3, 4] [0, 1, 2] (⟨[(2, .own 0 0), (3, .own 1 0), (4, .own 2 0)], ⟨[(0, .blk 25 [.sl 0, .sl 1]), (1, .blk 27 [.v (.int .i64 s.lo), .v (.int .i64 s.hi)]), (2, .blk 27 [.v (.int .i64 0), .v (.int .i64 0)])], (wormtubref04_vapour_R c), []⟩⟩) [] S (by kernel_rfl) (by kernel_rfl) (by kernel_rfl) trivial ?_
  clear S; intro E a w S
  obtain ⟨r1, e1, h⟩ := bind_some h
  refine sym_seq lay_ok mixed [(3, { res := .tup [.v (.int .i64 r1.1), .v (.int .i64 r1.2)] })] [2, 3, 4, 5, 6] [0, 1, 2] (⟨[(2, .own 0 0), (3, .own 1 0), (4, .own 2 0), (5, .v (.int .i64 r1.1)), (6, .v (.int .i64 r1.2))], ⟨[(0, .blk 25 [.sl 0, .sl 1]), (1, .blk 27 [.v (.int .i64 s.lo), .v (.int .i64 s.hi)]), (2, .blk 27 [.v (.int .i64 0), .v (.int .i64 0)])], (wormtubref04_vapour_R c), []⟩⟩) [.call ⟨[], (wormtubref04_vapour_R c), []⟩ 64 [.agg [.sl 0, .sl 1], .v (.bool false), .v (.int .i64 s.lo), .v (.int .i64 1)] (.tup [.v (.int .i64 r1.1), .v (.int .i64 r1.2)])] S (by kernel_rfl) (by kernel_rfl) (by kernel_rfl) ⟨⟨enters_64, fun E W _ hm => by obtain ⟨A0, c0, q0, l0, s0, _⟩ := Mem.sl hm (s := 0) rfl; obtain ⟨A1, c1, q1, l1, s1, _⟩ := Mem.sl hm (s := 1) rfl; simp only [SV.vals, SV.val, q0, q1]; exact wormtubref04_Line_ok fuel c false s.lo 1 W A0 c0 l0 s0 A1 c1 l1 s1 r1 e1⟩, trivial⟩ ?_
  clear S; intro E a w S
  obtain ⟨r2, e2, h⟩ := bind_some h
  refine sym_seq lay_ok mixed [(3, { res := .tup [.v (.int .i64 r2.1), .v (.int .i64 r2.2)] })] [4, 5, 6, 7, 8] [2] (⟨[(4, .own 2 0), (5, .v (.int .i64 r1.1)), (6, .v (.int .i64 r1.2)), (7, .v (.int .i64 r2.1)), (8, .v (.int .i64 r2.2))], ⟨[(2, .blk 27 [.v (.int .i64 0), .v (.int .i64 0)])], (wormtubref04_vapour_R c), []⟩⟩) [.call ⟨[], (wormtubref04_vapour_R c), []⟩ 64 [.agg [.sl 0, .sl 1], .v (.bool true), .v (.int .i64 s.hi), .v (.int .i64 1)] (.tup [.v (.int .i64 r2.1), .v (.int .i64 r2.2)])] S (by kernel_rfl) (by kernel_rfl) (by kernel_rfl) ⟨⟨enters_64, fun E W _ hm => by obtain ⟨A0, c0, q0, l0, s0, _⟩ := Mem.sl hm (s := 0) rfl; obtain ⟨A1, c1, q1, l1, s1, _⟩ := Mem.sl hm (s := 1) rfl; simp only [SV.vals, SV.val, q0, q1]; exact wormtubref04_Line_ok fuel c true s.hi 1 W A0 c0 l0 s0 A1 c1 l1 s1 r2 e2⟩, trivial⟩ ?_
  clear S; intro E a w S
  obtain ⟨⟨g1, g2⟩, h⟩ := grd_some h
  obtain ⟨r3, e3, h⟩ := bind_some h
  refine sym_seq lay_ok mixed [(5, { res := .v (.int .i64 r3) })] [4] [2] (⟨[(4, .own 2 0)], ⟨[(2, .blk 27 [.v (.int .i64 (r1.1.tdiv r1.2)), .v (.int .i64 r3)])], (wormtubref04_vapour_R c), []⟩⟩) [.nz r1.2, .rng .i64 (r1.1.tdiv r1.2), .call ⟨[], (wormtubref04_vapour_R c), []⟩ 60 [.v (.int .i64 r2.1), .v (.int .i64 r2.2)] (.v (.int .i64 r3))] S (by kernel_rfl) (by kernel_rfl) (by kernel_rfl) ⟨g1, rngI64 g2, ⟨enters_60, fun _ W _ _ => wormtubref04_up_ok r2.1 r2.2 W r3 e3⟩, trivial⟩ ?_
  clear S; intro E a w S
  refine wp_ret ?_
  have h := Option.some.inj h
  subst h
  exact sym_ret lay_ok [.agg [.v (.int .i64 (r1.1.tdiv r1.2)), .v (.int .i64 r3)]] (by kernel_rfl) rfl S ⟨rfl, S.below rfl⟩
def wormtubref04_Vapour_R (c : MCurve) : List (Nat × Q) := [(0, ⟨c.liquid.length, 1, fun i => [.int .i64 (c.liquid.getD i default)]⟩), (1, ⟨c.vapour.length, 2, fun i => [.int .i64 ((c.vapour.getD i default).lo), .int .i64 ((c.vapour.getD i default).hi)]⟩)]
def wormtubref04_Vapour (fuel : Nat) (c : MCurve) (s : MSpan) : Option (MSpan × Int) :=
(wormtubref04_Curve fuel c).bind fun (r1 : Bool) =>
((bif (!(!r1)) then wormtubref04_Within s 0 10000 else some default)).bind fun (r2 : Bool) =>
(bif ((!r1) || (!r2)) then
(some ((MSpan.mk 0 0), 1))
else
((wormtubref04_vapour fuel c s).bind fun (r3 : MSpan) =>
some (r3, 0)))
set_option maxRecDepth 100000 in
set_option maxHeartbeats 4000000 in
theorem wormtubref04_Vapour_ok (fuel : Nat) (c : MCurve) (s : MSpan) (W : World) (A0 : Option Addr) (c0 : Nat) (h0 : c.liquid.length ≤ c0) (s0 : SlAt W A0 c.liquid.length 1 fun i => [.int .i64 (c.liquid.getD i default)]) (A1 : Option Addr) (c1 : Nat) (h1 : c.vapour.length ≤ c1) (s1 : SlAt W A1 c.vapour.length 2 fun i => [.int .i64 ((c.vapour.getD i default).lo), .int .i64 ((c.vapour.getD i default).hi)]) (res : MSpan × Int) (h : wormtubref04_Vapour fuel c s = some res) :
    Calls Go.Proofs.Try.prog 19 #[.agg #[.slice A0 c.liquid.length c0, .slice A1 c.vapour.length c1], .agg #[.int .i64 s.lo, .int .i64 s.hi]] W fun e w' => e = .returned (.tuple #[.agg #[.int .i64 res.1.lo, .int .i64 res.1.hi], .int .i64 res.2]) ∧ Below W.heap.size W w' := by
  refine sym_call (f := 19) (fn := Go.Proofs.Try.f19) (c := Go.Proofs.Try.f19.body.get rfl) Go.Proofs.Try.func19 rfl [.agg [.sl 0, .sl 1], .agg [.v (.int .i64 s.lo), .v (.int .i64 s.hi)]] (wormtubref04_Vapour_R c) [] (envOf [(0, ⟨A0, c.liquid.length, c0, 1⟩), (1, ⟨A1, c.vapour.length, c1, 2⟩)]) allR (fun _ _ => rfl) (by kernel_rfl) (envOf_one trivial) ⟨s0.rd h0, s1.rd h1, trivial⟩ (AllRR.all _ _) trivial fun E a w S => ?_
  rw [wormtubref04_Vapour] at h
  refine sym_seq lay_ok mixed [(0, { g := 0 }), (1, { g := 1 }), (2, { g := 2 })] [2, 3, 4] [0, 1, 2] (⟨[(2, .own 0 0), (3, .own 1 0), (4, .own 2 0)], ⟨[(0, .blk 25 [.sl 0, .sl 1]), (1, .blk 27 [.v (.int .i64 s.lo), .v (.int .i64 s.hi)]), (2, .blk 27 [.v (.int .i64 0), .v (.int .i64 0)])], (wormtubref04_Vapour_R c), []⟩⟩) [] S (by kernel_rfl) (by kernel_rfl) (by kernel_rfl) trivial ?_
  clear S; intro E a w S
  refine wp_seq ?_
  obtain ⟨r1, e1, h⟩ := bind_some h
  obtain ⟨r2, e2, h⟩ := bind_some h
  refine sym_seq lay_ok mixed [(1, { res := .v (.bool r1) }), (4, { og := true }), (5, { og := true, res := .v (.bool r2) }), (6, { og := true }), (7, { pk := true })] [2, 3, 4, 13] [0, 1, 2] (⟨[(2, .own 0 0), (3, .own 1 0), (4, .own 2 0), (13, .v (.bool ((!r1) || (!r2))))], ⟨[(0, .blk 25 [.sl 0, .sl 1]), (1, .blk 27 [.v (.int .i64 s.lo), .v (.int .i64 s.hi)]), (2, .blk 27 [.v (.int .i64 0), .v (.int .i64 0)])], (wormtubref04_Vapour_R c), []⟩⟩) [.call ⟨[], (wormtubref04_Vapour_R c), []⟩ 39 [.agg [.sl 0, .sl 1]] (.v (.bool r1)), .imp (!(!r1)) (!(!r1)), .when (!(!r1)) (.call ⟨[], (wormtubref04_Vapour_R c), []⟩ 49 [.agg [.v (.int .i64 s.lo), .v (.int .i64 s.hi)], .v (.int .i64 0), .v (.int .i64 10000)] (.v (.bool r2))), .imp (!(!r1)) (!(!r1)), .imp (!(!r1)) (!(!r1))] S (by kernel_rfl) (by kernel_rfl) (by kernel_rfl) ⟨⟨enters_39, fun E W _ hm => by obtain ⟨A0, c0, q0, l0, s0, _⟩ := Mem.sl hm (s := 0) rfl; obtain ⟨A1, c1, q1, l1, s1, _⟩ := Mem.sl hm (s := 1) rfl; simp only [SV.vals, SV.val, q0, q1]; exact wormtubref04_Curve_ok fuel c W A0 c0 l0 s0 A1 c1 l1 s1 r1 e1⟩, fun h => h, fun hW => ⟨enters_49, fun _ W _ _ => wormtubref04_Within_ok s 0 10000 W r2 (bif_t hW e2)⟩, fun h => h, fun h => h, trivial⟩ ?_
  clear S; intro E a w S
  refine sym_if_last (b := ((!r1) || (!r2))) S rfl (fun hb1 => ?_) (fun hb1 => ?_)
  · have h := bif_t hb1 h
    refine sym_seq lay_ok mixed [] [4, 5] [2] (⟨[(4, .own 2 0), (5, .v (.int .i64 1))], ⟨[(2, .blk 27 [.v (.int .i64 0), .v (.int .i64 0)])], (wormtubref04_Vapour_R c), []⟩⟩) [] S (by kernel_rfl) (by kernel_rfl) (by kernel_rfl) trivial ?_
    clear S; intro E a w S
    refine wp_ret ?_
    refine out_then_ret ?_
    have h := Option.some.inj h
    subst h
    exact sym_ret lay_ok [.agg [.v (.int .i64 0), .v (.int .i64 0)], .v (.int .i64 1)] (by kernel_rfl) rfl S ⟨rfl, S.below rfl⟩
  · have h := bif_f hb1 h
    refine wp_skip ?_
    refine out_then_normal ?_
    obtain ⟨r3, e3, h⟩ := bind_some h
    refine sym_seq lay_ok mixed [(2, { res := .agg [.v (.int .i64 r3.lo), .v (.int .i64 r3.hi)] })] [4, 5] [2] (⟨[(4, .own 2 0), (5, .v (.int .i64 0))], ⟨[(2, .blk 27 [.v (.int .i64 r3.lo), .v (.int .i64 r3.hi)])], (wormtubref04_Vapour_R c), []⟩⟩) [.call ⟨[], (wormtubref04_Vapour_R c), []⟩ 50 [.agg [.sl 0, .sl 1], .agg [.v (.int .i64 s.lo), .v (.int .i64 s.hi)]] (.agg [.v (.int .i64 r3.lo), .v (.int .i64 r3.hi)])] S (by kernel_rfl) (by kernel_rfl) (by kernel_rfl) ⟨⟨enters_50, fun E W _ hm => by obtain ⟨A0, c0, q0, l0, s0, _⟩ := Mem.sl hm (s := 0) rfl; obtain ⟨A1, c1, q1, l1, s1, _⟩ := Mem.sl hm (s := 1) rfl; simp only [SV.vals, SV.val, q0, q1]; exact wormtubref04_vapour_ok fuel c s W A0 c0 l0 s0 A1 c1 l1 s1 r3 e3⟩, trivial⟩ ?_
    clear S; intro E a w S
    refine wp_ret ?_
    have h := Option.some.inj h
    subst h
    exact sym_ret lay_ok [.agg [.v (.int .i64 r3.lo), .v (.int .i64 r3.hi)], .v (.int .i64 0)] (by kernel_rfl) rfl S ⟨rfl, S.below rfl⟩
def wormtubref04_Check_R (c : MCurve) : List (Nat × Q) := [(0, ⟨c.liquid.length, 1, fun i => [.int .i64 (c.liquid.getD i default)]⟩), (1, ⟨c.vapour.length, 2, fun i => [.int .i64 ((c.vapour.getD i default).lo), .int .i64 ((c.vapour.getD i default).hi)]⟩)]
def wormtubref04_Check (fuel : Nat) (c : MCurve) : Option Int :=
(wormtubref04_Curve fuel c).bind fun (r1 : Bool) =>
(bif (!r1) then
(some 1)
else
(some 0))
set_option maxRecDepth 100000 in
set_option maxHeartbeats 4000000 in
theorem wormtubref04_Check_ok (fuel : Nat) (c : MCurve) (W : World) (A0 : Option Addr) (c0 : Nat) (h0 : c.liquid.length ≤ c0) (s0 : SlAt W A0 c.liquid.length 1 fun i => [.int .i64 (c.liquid.getD i default)]) (A1 : Option Addr) (c1 : Nat) (h1 : c.vapour.length ≤ c1) (s1 : SlAt W A1 c.vapour.length 2 fun i => [.int .i64 ((c.vapour.getD i default).lo), .int .i64 ((c.vapour.getD i default).hi)]) (res : Int) (h : wormtubref04_Check fuel c = some res) :
    Calls Go.Proofs.Try.prog 25 #[.agg #[.slice A0 c.liquid.length c0, .slice A1 c.vapour.length c1]] W fun e w' => e = .returned (.int .i64 res) ∧ Below W.heap.size W w' := by
  refine sym_call (f := 25) (fn := Go.Proofs.Try.f25) (c := Go.Proofs.Try.f25.body.get rfl) Go.Proofs.Try.func25 rfl [.agg [.sl 0, .sl 1]] (wormtubref04_Check_R c) [] (envOf [(0, ⟨A0, c.liquid.length, c0, 1⟩), (1, ⟨A1, c.vapour.length, c1, 2⟩)]) allR (fun _ _ => rfl) (by kernel_rfl) (envOf_one trivial) ⟨s0.rd h0, s1.rd h1, trivial⟩ (AllRR.all _ _) trivial fun E a w S => ?_
  rw [wormtubref04_Check] at h
  refine sym_seq lay_ok mixed [(0, { g := 0 })] [1] [0] (⟨[(1, .own 0 0)], ⟨[(0, .blk 25 [.sl 0, .sl 1])], (wormtubref04_Check_R c), []⟩⟩) [] S (by kernel_rfl) (by kernel_rfl) (by kernel_rfl) trivial ?_
  clear S; intro E a w S
  refine wp_seq ?_
  obtain ⟨r1, e1, h⟩ := bind_some h
  refine sym_seq lay_ok mixed [(1, { res := .v (.bool r1) })] [5] [] (⟨[(5, .v (.bool (!r1)))], ⟨[], (wormtubref04_Check_R c), []⟩⟩) [.call ⟨[], (wormtubref04_Check_R c), []⟩ 39 [.agg [.sl 0, .sl 1]] (.v (.bool r1))] S (by kernel_rfl) (by kernel_rfl) (by kernel_rfl) ⟨⟨enters_39, fun E W _ hm => by obtain ⟨A0, c0, q0, l0, s0, _⟩ := Mem.sl hm (s := 0) rfl; obtain ⟨A1, c1, q1, l1, s1, _⟩ := Mem.sl hm (s := 1) rfl; simp only [SV.vals, SV.val, q0, q1]; exact wormtubref04_Curve_ok fuel c W A0 c0 l0 s0 A1 c1 l1 s1 r1 e1⟩, trivial⟩ ?_
  clear S; intro E a w S
  refine sym_if_last (b := (!r1)) S rfl (fun hb1 => ?_) (fun hb1 => ?_)
  · have h := bif_t hb1 h
    refine sym_seq lay_ok mixed [] [2] [] (⟨[(2, .v (.int .i64 1))], ⟨[], (wormtubref04_Check_R c), []⟩⟩) [] S (by kernel_rfl) (by kernel_rfl) (by kernel_rfl) trivial ?_
    clear S; intro E a w S
    refine wp_ret ?_
    refine out_then_ret ?_
    have h := Option.some.inj h
    subst h
    exact sym_ret lay_ok [.v (.int .i64 1)] (by kernel_rfl) rfl S ⟨rfl, S.below rfl⟩
  · have h := bif_f hb1 h
    refine wp_skip ?_
    refine out_then_normal ?_
    refine sym_seq lay_ok mixed [] [2] [] (⟨[(2, .v (.int .i64 0))], ⟨[], (wormtubref04_Check_R c), []⟩⟩) [] S (by kernel_rfl) (by kernel_rfl) (by kernel_rfl) trivial ?_
    clear S; intro E a w S
    refine wp_ret ?_
    have h := Option.some.inj h
    subst h
    exact sym_ret lay_ok [.v (.int .i64 0)] (by kernel_rfl) rfl S ⟨rfl, S.below rfl⟩
def wormtubref04_Cycle_l1 (fresh : MSpan) (keep : MSpan) (limit : Int) : Nat → (Int × Int × Int) → Option (Lp Unit (Int × Int × Int))
  | 0, _ => none
  | n + 1, b1 =>
    (bif decide (limit < b1.1) then
    (some (Lp.ret (b1.1, b1.2.2, 0)))
    else
    (grd (InI64 (b1.1 + fresh.hi) ∧ InI64 ((b1.1 + fresh.hi) * keep.hi)) <|
    (wormtubref04_up ((b1.1 + fresh.hi) * keep.hi) 1000).bind fun (r5 : Int) =>
    (bif (r5 == b1.1) then
    (some (Lp.ret ((max b1.2.1 b1.1), (-1), 0)))
    else
    (grd (InI64 (b1.2.2 + 1)) <|
    wormtubref04_Cycle_l1 fresh keep limit n (r5, (max b1.2.1 b1.1), (b1.2.2 + 1))))))
def wormtubref04_Cycle (fuel : Nat) (fresh : MSpan) (keep : MSpan) (start : Int) (limit : Int) : Option (Int × Int × Int) :=
(wormtubref04_Within fresh 0 1073741824).bind fun (r1 : Bool) =>
((bif (!(!r1)) then wormtubref04_Within keep 0 999 else some default)).bind fun (r2 : Bool) =>
(bif ((!r1) || (!r2)) then
(some (0, 0, 1))
else
((wormtubref04_in start 0 1073741824).bind fun (r3 : Bool) =>
((bif (!(!r3)) then wormtubref04_in limit 0 1073741824 else some default)).bind fun (r4 : Bool) =>
(bif ((!r3) || (!r4)) then
(some (0, 0, 2))
else
((wormtubref04_Cycle_l1 fresh keep limit fuel (start, start, 0)).bind fun lr1 => lr1.go fun x1 => (fun (x1 : Unit) =>
none) x1))))
set_option maxRecDepth 100000 in
set_option maxHeartbeats 4000000 in
theorem wormtubref04_Cycle_ok (fuel : Nat) (fresh : MSpan) (keep : MSpan) (start : Int) (limit : Int) (W : World)  (res : Int × Int × Int) (h : wormtubref04_Cycle fuel fresh keep start limit = some res) :
    Calls Go.Proofs.Try.prog 33 #[.agg #[.int .i64 fresh.lo, .int .i64 fresh.hi], .agg #[.int .i64 keep.lo, .int .i64 keep.hi], .int .i64 start, .int .i64 limit] W fun e w' => e = .returned (.tuple #[.int .i64 res.1, .int .i64 res.2.1, .int .i64 res.2.2]) ∧ Below W.heap.size W w' := by
  refine sym_call (f := 33) (fn := Go.Proofs.Try.f33) (c := Go.Proofs.Try.f33.body.get rfl) Go.Proofs.Try.func33 rfl [.agg [.v (.int .i64 fresh.lo), .v (.int .i64 fresh.hi)], .agg [.v (.int .i64 keep.lo), .v (.int .i64 keep.hi)], .v (.int .i64 start), .v (.int .i64 limit)] [] [] (envOf []) allR (fun _ _ => rfl) (by kernel_rfl) (envOf_one trivial) trivial (AllRR.all _ _) trivial fun E a w S => ?_
  rw [wormtubref04_Cycle] at h
  refine sym_seq lay_ok mixed [(0, { g := 0 }), (1, { g := 1 })] [2, 3, 4, 5] [0, 1] (⟨[(2, .v (.int .i64 start)), (3, .v (.int .i64 limit)), (4, .own 0 0), (5, .own 1 0)], ⟨[(0, .blk 27 [.v (.int .i64 fresh.lo), .v (.int .i64 fresh.hi)]), (1, .blk 27 [.v (.int .i64 keep.lo), .v (.int .i64 keep.hi)])], [], []⟩⟩) [] S (by kernel_rfl) (by kernel_rfl) (by kernel_rfl) trivial ?_
  clear S; intro E a w S
  refine wp_seq ?_
  obtain ⟨r1, e1, h⟩ := bind_some h
  obtain ⟨r2, e2, h⟩ := bind_some h
  refine sym_seq lay_ok mixed [(1, { res := .v (.bool r1) }), (4, { og := true }), (5, { og := true, res := .v (.bool r2) }), (6, { og := true }), (7, { pk := true })] [2, 3, 4, 5, 22] [0, 1] (⟨[(2, .v (.int .i64 start)), (3, .v (.int .i64 limit)), (4, .own 0 0), (5, .own 1 0), (22, .v (.bool ((!r1) || (!r2))))], ⟨[(0, .blk 27 [.v (.int .i64 fresh.lo), .v (.int .i64 fresh.hi)]), (1, .blk 27 [.v (.int .i64 keep.lo), .v (.int .i64 keep.hi)])], [], []⟩⟩) [.call ⟨[], [], []⟩ 49 [.agg [.v (.int .i64 fresh.lo), .v (.int .i64 fresh.hi)], .v (.int .i64 0), .v (.int .i64 1073741824)] (.v (.bool r1)), .imp (!(!r1)) (!(!r1)), .when (!(!r1)) (.call ⟨[], [], []⟩ 49 [.agg [.v (.int .i64 keep.lo), .v (.int .i64 keep.hi)], .v (.int .i64 0), .v (.int .i64 999)] (.v (.bool r2))), .imp (!(!r1)) (!(!r1)), .imp (!(!r1)) (!(!r1))] S (by kernel_rfl) (by kernel_rfl) (by kernel_rfl) ⟨⟨enters_49, fun _ W _ _ => wormtubref04_Within_ok fresh 0 1073741824 W r1 e1⟩, fun h => h, fun hW => ⟨enters_49, fun _ W _ _ => wormtubref04_Within_ok keep 0 999 W r2 (bif_t hW e2)⟩, fun h => h, fun h => h, trivial⟩ ?_
  clear S; intro E a w S
  refine sym_if_last (b := ((!r1) || (!r2))) S rfl (fun hb1 => ?_) (fun hb1 => ?_)
  · have h := bif_t hb1 h
    refine sym_seq lay_ok mixed [] [8, 9, 10] [] (⟨[(8, .v (.int .i64 0)), (9, .v (.int .i64 0)), (10, .v (.int .i64 1))], ⟨[], [], []⟩⟩) [] S (by kernel_rfl) (by kernel_rfl) (by kernel_rfl) trivial ?_
    clear S; intro E a w S
    refine wp_ret ?_
    refine out_then_ret ?_
    have h := Option.some.inj h
    subst h
    exact sym_ret lay_ok [.v (.int .i64 0), .v (.int .i64 0), .v (.int .i64 1)] (by kernel_rfl) rfl S ⟨rfl, S.below rfl⟩
  · have h := bif_f hb1 h
    refine wp_skip ?_
    refine out_then_normal ?_
    refine wp_seq ?_
    obtain ⟨r3, e3, h⟩ := bind_some h
    obtain ⟨r4, e4, h⟩ := bind_some h
    refine sym_seq lay_ok mixed [(1, { res := .v (.bool r3) }), (4, { og := true }), (5, { og := true, res := .v (.bool r4) }), (6, { og := true }), (7, { pk := true })] [2, 3, 4, 5, 30] [0, 1] (⟨[(2, .v (.int .i64 start)), (3, .v (.int .i64 limit)), (4, .own 0 0), (5, .own 1 0), (30, .v (.bool ((!r3) || (!r4))))], ⟨[(0, .blk 27 [.v (.int .i64 fresh.lo), .v (.int .i64 fresh.hi)]), (1, .blk 27 [.v (.int .i64 keep.lo), .v (.int .i64 keep.hi)])], [], []⟩⟩) [.call ⟨[], [], []⟩ 51 [.v (.int .i64 start), .v (.int .i64 0), .v (.int .i64 1073741824)] (.v (.bool r3)), .imp (!(!r3)) (!(!r3)), .when (!(!r3)) (.call ⟨[], [], []⟩ 51 [.v (.int .i64 limit), .v (.int .i64 0), .v (.int .i64 1073741824)] (.v (.bool r4))), .imp (!(!r3)) (!(!r3)), .imp (!(!r3)) (!(!r3))] S (by kernel_rfl) (by kernel_rfl) (by kernel_rfl) ⟨⟨enters_51, fun _ W _ _ => wormtubref04_in_ok start 0 1073741824 W r3 e3⟩, fun h => h, fun hW => ⟨enters_51, fun _ W _ _ => wormtubref04_in_ok limit 0 1073741824 W r4 (bif_t hW e4)⟩, fun h => h, fun h => h, trivial⟩ ?_
    clear S; intro E a w S
    refine sym_if_last (b := ((!r3) || (!r4))) S rfl (fun hb2 => ?_) (fun hb2 => ?_)
    · have h := bif_t hb2 h
      refine sym_seq lay_ok mixed [] [8, 9, 10] [] (⟨[(8, .v (.int .i64 0)), (9, .v (.int .i64 0)), (10, .v (.int .i64 2))], ⟨[], [], []⟩⟩) [] S (by kernel_rfl) (by kernel_rfl) (by kernel_rfl) trivial ?_
      clear S; intro E a w S
      refine wp_ret ?_
      refine out_then_ret ?_
      have h := Option.some.inj h
      subst h
      exact sym_ret lay_ok [.v (.int .i64 0), .v (.int .i64 0), .v (.int .i64 2)] (by kernel_rfl) rfl S ⟨rfl, S.below rfl⟩
    · have h := bif_f hb2 h
      refine wp_skip ?_
      refine out_then_normal ?_
      refine sym_seq lay_ok mixed [] [3, 4, 5, 11, 12] [0, 1] (⟨[(3, .v (.int .i64 limit)), (4, .own 0 0), (5, .own 1 0), (11, .v (.int .i64 start)), (12, .v (.int .i64 start))], ⟨[(0, .blk 27 [.v (.int .i64 fresh.lo), .v (.int .i64 fresh.hi)]), (1, .blk 27 [.v (.int .i64 keep.lo), .v (.int .i64 keep.hi)])], [], []⟩⟩) [] S (by kernel_rfl) (by kernel_rfl) (by kernel_rfl) trivial ?_
      clear S; intro E a w S
      refine sym_seq lay_ok mixed [] [3, 4, 5, 11, 12, 13] [0, 1] (⟨[(3, .v (.int .i64 limit)), (4, .own 0 0), (5, .own 1 0), (11, .v (.int .i64 start)), (12, .v (.int .i64 start)), (13, .v (.int .i64 0))], ⟨[(0, .blk 27 [.v (.int .i64 fresh.lo), .v (.int .i64 fresh.hi)]), (1, .blk 27 [.v (.int .i64 keep.lo), .v (.int .i64 keep.hi)])], [], []⟩⟩) [] S (by kernel_rfl) (by kernel_rfl) (by kernel_rfl) trivial ?_
      clear S; intro E a w S
      obtain ⟨lr1, e5, hp1⟩ := bind_some h
      clear h
      refine sym_block_last (G := fun _ _ => False) ?_ (fun a w h => h.elim)
      · refine wp_loop_rounds fuel ?_
        refine sym_rounds (F := fun n b1 => wormtubref04_Cycle_l1 fresh keep limit n b1 = some lr1) (H := fun b1 => ⟨[(3, .v (.int .i64 limit)), (4, .own 0 0), (5, .own 1 0), (11, .v (.int .i64 b1.1)), (12, .v (.int .i64 b1.2.1)), (13, .v (.int .i64 b1.2.2))], ⟨[(0, .blk 27 [.v (.int .i64 fresh.lo), .v (.int .i64 fresh.hi)]), (1, .blk 27 [.v (.int .i64 keep.lo), .v (.int .i64 keep.hi)])], [], []⟩⟩) (start, start, 0) (fun b hb => by have hb : none = some lr1 := hb; cases hb) ?_ _ _ _ _ e5 (St.cast (P := Go.Proofs.Try.prog) [] [] [3, 4, 5, 11, 12, 13] [0, 1] [] _ [] (by kernel_rfl) trivial S)
        clear e5 S
        intro n b1 E a w h ih S
        rw [wormtubref04_Cycle_l1] at h
        refine wp_seq ?_
        refine wp_block ?_
        refine wp_seq ?_
        refine sym_seq lay_ok mixed [] [3, 4, 5, 11, 12, 13, 37] [0, 1] (⟨[(3, .v (.int .i64 limit)), (4, .own 0 0), (5, .own 1 0), (11, .v (.int .i64 b1.1)), (12, .v (.int .i64 b1.2.1)), (13, .v (.int .i64 b1.2.2)), (37, .v (.bool (decide (limit < b1.1))))], ⟨[(0, .blk 27 [.v (.int .i64 fresh.lo), .v (.int .i64 fresh.hi)]), (1, .blk 27 [.v (.int .i64 keep.lo), .v (.int .i64 keep.hi)])], [], []⟩⟩) [] S (by kernel_rfl) (by kernel_rfl) (by kernel_rfl) trivial ?_
        clear S; intro E a w S
        refine sym_if_last (b := decide (limit < b1.1)) S rfl (fun hb3 => ?_) (fun hb3 => ?_)
        · have h := bif_t hb3 h
          refine sym_seq lay_ok mixed [] [8, 9, 10] [] (⟨[(8, .v (.int .i64 b1.1)), (9, .v (.int .i64 b1.2.2)), (10, .v (.int .i64 0))], ⟨[], [], []⟩⟩) [] S (by kernel_rfl) (by kernel_rfl) (by kernel_rfl) trivial ?_
          clear S; intro E a w S
          refine wp_ret ?_
          refine out_then_ret ?_
          refine out_block_ret ?_
          refine out_then_ret ?_
          refine out_then_ret ?_
          refine out_block_ret ?_
          refine out_then_ret ?_
          have hr := Option.some.inj h
          subst hr
          have hr := Option.some.inj hp1
          subst hr
          exact sym_ret lay_ok [.v (.int .i64 b1.1), .v (.int .i64 b1.2.2), .v (.int .i64 0)] (by kernel_rfl) rfl S ⟨rfl, S.below rfl⟩
        · have h := bif_f hb3 h
          refine wp_skip ?_
          refine out_then_normal ?_
          refine sym_seq lay_ok mixed [] [3, 4, 5, 11, 12, 13] [0, 1] (⟨[(3, .v (.int .i64 limit)), (4, .own 0 0), (5, .own 1 0), (11, .v (.int .i64 b1.1)), (12, .v (.int .i64 (max b1.2.1 b1.1))), (13, .v (.int .i64 b1.2.2))], ⟨[(0, .blk 27 [.v (.int .i64 fresh.lo), .v (.int .i64 fresh.hi)]), (1, .blk 27 [.v (.int .i64 keep.lo), .v (.int .i64 keep.hi)])], [], []⟩⟩) [] S (by kernel_rfl) (by kernel_rfl) (by kernel_rfl) trivial ?_
          clear S; intro E a w S
          obtain ⟨⟨g1, g2⟩, h⟩ := grd_some h
          obtain ⟨r5, e6, h⟩ := bind_some h
          refine sym_seq lay_ok mixed [(7, { res := .v (.int .i64 r5) })] [3, 4, 5, 11, 12, 13, 14] [0, 1] (⟨[(3, .v (.int .i64 limit)), (4, .own 0 0), (5, .own 1 0), (11, .v (.int .i64 b1.1)), (12, .v (.int .i64 (max b1.2.1 b1.1))), (13, .v (.int .i64 b1.2.2)), (14, .v (.int .i64 r5))], ⟨[(0, .blk 27 [.v (.int .i64 fresh.lo), .v (.int .i64 fresh.hi)]), (1, .blk 27 [.v (.int .i64 keep.lo), .v (.int .i64 keep.hi)])], [], []⟩⟩) [.rng .i64 (b1.1 + fresh.hi), .rng .i64 ((b1.1 + fresh.hi) * keep.hi), .call ⟨[], [], []⟩ 60 [.v (.int .i64 ((b1.1 + fresh.hi) * keep.hi)), .v (.int .i64 1000)] (.v (.int .i64 r5))] S (by kernel_rfl) (by kernel_rfl) (by kernel_rfl) ⟨rngI64 g1, rngI64 g2, ⟨enters_60, fun _ W _ _ => wormtubref04_up_ok ((b1.1 + fresh.hi) * keep.hi) 1000 W r5 e6⟩, trivial⟩ ?_
          clear S; intro E a w S
          refine wp_seq ?_
          refine sym_seq lay_ok mixed [] [3, 4, 5, 12, 13, 14, 53] [0, 1] (⟨[(3, .v (.int .i64 limit)), (4, .own 0 0), (5, .own 1 0), (12, .v (.int .i64 (max b1.2.1 b1.1))), (13, .v (.int .i64 b1.2.2)), (14, .v (.int .i64 r5)), (53, .v (.bool (r5 == b1.1)))], ⟨[(0, .blk 27 [.v (.int .i64 fresh.lo), .v (.int .i64 fresh.hi)]), (1, .blk 27 [.v (.int .i64 keep.lo), .v (.int .i64 keep.hi)])], [], []⟩⟩) [] S (by kernel_rfl) (by kernel_rfl) (by kernel_rfl) trivial ?_
          clear S; intro E a w S
          refine sym_if_last (b := (r5 == b1.1)) S rfl (fun hb4 => ?_) (fun hb4 => ?_)
          · have h := bif_t hb4 h
            refine sym_seq lay_ok mixed [] [8, 9, 10] [] (⟨[(8, .v (.int .i64 (max b1.2.1 b1.1))), (9, .v (.int .i64 (-1))), (10, .v (.int .i64 0))], ⟨[], [], []⟩⟩) [] S (by kernel_rfl) (by kernel_rfl) (by kernel_rfl) trivial ?_
            clear S; intro E a w S
            refine wp_ret ?_
            refine out_then_ret ?_
            refine out_block_ret ?_
            refine out_then_ret ?_
            refine out_then_ret ?_
            refine out_block_ret ?_
            refine out_then_ret ?_
            have hr := Option.some.inj h
            subst hr
            have hr := Option.some.inj hp1
            subst hr
            exact sym_ret lay_ok [.v (.int .i64 (max b1.2.1 b1.1)), .v (.int .i64 (-1)), .v (.int .i64 0)] (by kernel_rfl) rfl S ⟨rfl, S.below rfl⟩
          · have h := bif_f hb4 h
            refine wp_skip ?_
            refine out_then_normal ?_
            refine sym_last lay_ok mixed [] [3, 4, 5, 12, 13, 11] [0, 1] (⟨[(3, .v (.int .i64 limit)), (4, .own 0 0), (5, .own 1 0), (12, .v (.int .i64 (max b1.2.1 b1.1))), (13, .v (.int .i64 b1.2.2)), (11, .v (.int .i64 r5))], ⟨[(0, .blk 27 [.v (.int .i64 fresh.lo), .v (.int .i64 fresh.hi)]), (1, .blk 27 [.v (.int .i64 keep.lo), .v (.int .i64 keep.hi)])], [], []⟩⟩) [] S (by kernel_rfl) (by kernel_rfl) (by kernel_rfl) trivial ?_
            clear S; intro E a w S
            refine out_block_normal ?_
            refine out_then_normal ?_
            obtain ⟨g3, h⟩ := grd_some h
            refine sym_last lay_ok mixed [] [3, 4, 5, 12, 13, 11] [0, 1] (⟨[(3, .v (.int .i64 limit)), (4, .own 0 0), (5, .own 1 0), (12, .v (.int .i64 (max b1.2.1 b1.1))), (13, .v (.int .i64 (b1.2.2 + 1))), (11, .v (.int .i64 r5))], ⟨[(0, .blk 27 [.v (.int .i64 fresh.lo), .v (.int .i64 fresh.hi)]), (1, .blk 27 [.v (.int .i64 keep.lo), .v (.int .i64 keep.hi)])], [], []⟩⟩) [.rng .i64 (b1.2.2 + 1)] S (by kernel_rfl) (by kernel_rfl) (by kernel_rfl) ⟨rngI64 g3, trivial⟩ ?_
            clear S; intro E a w S
            refine out_then_normal ?_
            exact ih (r5, (max b1.2.1 b1.1), (b1.2.2 + 1)) _ _ _ h (St.cast (P := Go.Proofs.Try.prog) [] [] [3, 4, 5, 11, 12, 13] [0, 1] [] _ [] (by kernel_rfl) trivial S)
def wormtubref04_Wear (thick : MSpan) (wear : MSpan) (least : Int) : Option (Int × Int × Int) :=
(wormtubref04_Within thick 0 1073741824).bind fun (r1 : Bool) =>
((bif (!(!r1)) then wormtubref04_Within wear 0 1073741824 else some default)).bind fun (r2 : Bool) =>
(bif ((!r1) || (!r2)) then
(some (0, 0, 1))
else
((wormtubref04_in least 0 1073741824).bind fun (r3 : Bool) =>
(bif (!r3) then
(some (0, 0, 2))
else
((bif decide (thick.lo < least) then
(some (0, 0, 12))
else
((wormtubref04_times thick.lo wear.hi least).bind fun (r4 : Int) =>
(wormtubref04_times thick.hi wear.lo least).bind fun (r5 : Int) =>
some (r4, r5, 0)))))))
set_option maxRecDepth 100000 in
set_option maxHeartbeats 4000000 in
theorem wormtubref04_Wear_ok (thick : MSpan) (wear : MSpan) (least : Int) (W : World)  (res : Int × Int × Int) (h : wormtubref04_Wear thick wear least = some res) :
    Calls Go.Proofs.Try.prog 35 #[.agg #[.int .i64 thick.lo, .int .i64 thick.hi], .agg #[.int .i64 wear.lo, .int .i64 wear.hi], .int .i64 least] W fun e w' => e = .returned (.tuple #[.int .i64 res.1, .int .i64 res.2.1, .int .i64 res.2.2]) ∧ Below W.heap.size W w' := by
  refine sym_call (f := 35) (fn := Go.Proofs.Try.f35) (c := Go.Proofs.Try.f35.body.get rfl) Go.Proofs.Try.func35 rfl [.agg [.v (.int .i64 thick.lo), .v (.int .i64 thick.hi)], .agg [.v (.int .i64 wear.lo), .v (.int .i64 wear.hi)], .v (.int .i64 least)] [] [] (envOf []) allR (fun _ _ => rfl) (by kernel_rfl) (envOf_one trivial) trivial (AllRR.all _ _) trivial fun E a w S => ?_
  rw [wormtubref04_Wear] at h
  refine sym_seq lay_ok mixed [(0, { g := 0 }), (1, { g := 1 })] [2, 3, 4] [0, 1] (⟨[(2, .v (.int .i64 least)), (3, .own 0 0), (4, .own 1 0)], ⟨[(0, .blk 27 [.v (.int .i64 thick.lo), .v (.int .i64 thick.hi)]), (1, .blk 27 [.v (.int .i64 wear.lo), .v (.int .i64 wear.hi)])], [], []⟩⟩) [] S (by kernel_rfl) (by kernel_rfl) (by kernel_rfl) trivial ?_
  clear S; intro E a w S
  refine wp_seq ?_
  obtain ⟨r1, e1, h⟩ := bind_some h
  obtain ⟨r2, e2, h⟩ := bind_some h
  refine sym_seq lay_ok mixed [(1, { res := .v (.bool r1) }), (4, { og := true }), (5, { og := true, res := .v (.bool r2) }), (6, { og := true }), (7, { pk := true })] [2, 3, 4, 16] [0, 1] (⟨[(2, .v (.int .i64 least)), (3, .own 0 0), (4, .own 1 0), (16, .v (.bool ((!r1) || (!r2))))], ⟨[(0, .blk 27 [.v (.int .i64 thick.lo), .v (.int .i64 thick.hi)]), (1, .blk 27 [.v (.int .i64 wear.lo), .v (.int .i64 wear.hi)])], [], []⟩⟩) [.call ⟨[], [], []⟩ 49 [.agg [.v (.int .i64 thick.lo), .v (.int .i64 thick.hi)], .v (.int .i64 0), .v (.int .i64 1073741824)] (.v (.bool r1)), .imp (!(!r1)) (!(!r1)), .when (!(!r1)) (.call ⟨[], [], []⟩ 49 [.agg [.v (.int .i64 wear.lo), .v (.int .i64 wear.hi)], .v (.int .i64 0), .v (.int .i64 1073741824)] (.v (.bool r2))), .imp (!(!r1)) (!(!r1)), .imp (!(!r1)) (!(!r1))] S (by kernel_rfl) (by kernel_rfl) (by kernel_rfl) ⟨⟨enters_49, fun _ W _ _ => wormtubref04_Within_ok thick 0 1073741824 W r1 e1⟩, fun h => h, fun hW => ⟨enters_49, fun _ W _ _ => wormtubref04_Within_ok wear 0 1073741824 W r2 (bif_t hW e2)⟩, fun h => h, fun h => h, trivial⟩ ?_
  clear S; intro E a w S
  refine sym_if_last (b := ((!r1) || (!r2))) S rfl (fun hb1 => ?_) (fun hb1 => ?_)
  · have h := bif_t hb1 h
    refine sym_seq lay_ok mixed [] [6, 7, 8] [] (⟨[(6, .v (.int .i64 0)), (7, .v (.int .i64 0)), (8, .v (.int .i64 1))], ⟨[], [], []⟩⟩) [] S (by kernel_rfl) (by kernel_rfl) (by kernel_rfl) trivial ?_
    clear S; intro E a w S
    refine wp_ret ?_
    refine out_then_ret ?_
    have h := Option.some.inj h
    subst h
    exact sym_ret lay_ok [.v (.int .i64 0), .v (.int .i64 0), .v (.int .i64 1)] (by kernel_rfl) rfl S ⟨rfl, S.below rfl⟩
  · have h := bif_f hb1 h
    refine wp_skip ?_
    refine out_then_normal ?_
    refine wp_seq ?_
    obtain ⟨r3, e3, h⟩ := bind_some h
    refine sym_seq lay_ok mixed [(1, { res := .v (.bool r3) })] [2, 3, 4, 19] [0, 1] (⟨[(2, .v (.int .i64 least)), (3, .own 0 0), (4, .own 1 0), (19, .v (.bool (!r3)))], ⟨[(0, .blk 27 [.v (.int .i64 thick.lo), .v (.int .i64 thick.hi)]), (1, .blk 27 [.v (.int .i64 wear.lo), .v (.int .i64 wear.hi)])], [], []⟩⟩) [.call ⟨[], [], []⟩ 51 [.v (.int .i64 least), .v (.int .i64 0), .v (.int .i64 1073741824)] (.v (.bool r3))] S (by kernel_rfl) (by kernel_rfl) (by kernel_rfl) ⟨⟨enters_51, fun _ W _ _ => wormtubref04_in_ok least 0 1073741824 W r3 e3⟩, trivial⟩ ?_
    clear S; intro E a w S
    refine sym_if_last (b := (!r3)) S rfl (fun hb2 => ?_) (fun hb2 => ?_)
    · have h := bif_t hb2 h
      refine sym_seq lay_ok mixed [] [6, 7, 8] [] (⟨[(6, .v (.int .i64 0)), (7, .v (.int .i64 0)), (8, .v (.int .i64 2))], ⟨[], [], []⟩⟩) [] S (by kernel_rfl) (by kernel_rfl) (by kernel_rfl) trivial ?_
      clear S; intro E a w S
      refine wp_ret ?_
      refine out_then_ret ?_
      have h := Option.some.inj h
      subst h
      exact sym_ret lay_ok [.v (.int .i64 0), .v (.int .i64 0), .v (.int .i64 2)] (by kernel_rfl) rfl S ⟨rfl, S.below rfl⟩
    · have h := bif_f hb2 h
      refine wp_skip ?_
      refine out_then_normal ?_
      refine wp_seq ?_
      refine sym_seq lay_ok mixed [] [2, 3, 4, 23] [0, 1] (⟨[(2, .v (.int .i64 least)), (3, .own 0 0), (4, .own 1 0), (23, .v (.bool (decide (thick.lo < least))))], ⟨[(0, .blk 27 [.v (.int .i64 thick.lo), .v (.int .i64 thick.hi)]), (1, .blk 27 [.v (.int .i64 wear.lo), .v (.int .i64 wear.hi)])], [], []⟩⟩) [] S (by kernel_rfl) (by kernel_rfl) (by kernel_rfl) trivial ?_
      clear S; intro E a w S
      refine sym_if_last (b := decide (thick.lo < least)) S rfl (fun hb3 => ?_) (fun hb3 => ?_)
      · have h := bif_t hb3 h
        refine sym_seq lay_ok mixed [] [6, 7, 8] [] (⟨[(6, .v (.int .i64 0)), (7, .v (.int .i64 0)), (8, .v (.int .i64 12))], ⟨[], [], []⟩⟩) [] S (by kernel_rfl) (by kernel_rfl) (by kernel_rfl) trivial ?_
        clear S; intro E a w S
        refine wp_ret ?_
        refine out_then_ret ?_
        have h := Option.some.inj h
        subst h
        exact sym_ret lay_ok [.v (.int .i64 0), .v (.int .i64 0), .v (.int .i64 12)] (by kernel_rfl) rfl S ⟨rfl, S.below rfl⟩
      · have h := bif_f hb3 h
        refine wp_skip ?_
        refine out_then_normal ?_
        obtain ⟨r4, e4, h⟩ := bind_some h
        obtain ⟨r5, e5, h⟩ := bind_some h
        refine sym_seq lay_ok mixed [(5, { res := .v (.int .i64 r4) }), (11, { res := .v (.int .i64 r5) })] [6, 7, 8] [] (⟨[(6, .v (.int .i64 r4)), (7, .v (.int .i64 r5)), (8, .v (.int .i64 0))], ⟨[], [], []⟩⟩) [.call ⟨[], [], []⟩ 62 [.v (.int .i64 thick.lo), .v (.int .i64 wear.hi), .v (.int .i64 least)] (.v (.int .i64 r4)), .call ⟨[], [], []⟩ 62 [.v (.int .i64 thick.hi), .v (.int .i64 wear.lo), .v (.int .i64 least)] (.v (.int .i64 r5))] S (by kernel_rfl) (by kernel_rfl) (by kernel_rfl) ⟨⟨enters_62, fun _ W _ _ => wormtubref04_times_ok thick.lo wear.hi least W r4 e4⟩, ⟨enters_62, fun _ W _ _ => wormtubref04_times_ok thick.hi wear.lo least W r5 e5⟩, trivial⟩ ?_
        clear S; intro E a w S
        refine wp_ret ?_
        have h := Option.some.inj h
        subst h
        exact sym_ret lay_ok [.v (.int .i64 r4), .v (.int .i64 r5), .v (.int .i64 0)] (by kernel_rfl) rfl S ⟨rfl, S.below rfl⟩
def wormtubref04_Plates_R (c : MCurve) : List (Nat × Q) := [(0, ⟨c.liquid.length, 1, fun i => [.int .i64 (c.liquid.getD i default)]⟩), (1, ⟨c.vapour.length, 2, fun i => [.int .i64 ((c.vapour.getD i default).lo), .int .i64 ((c.vapour.getD i default).hi)]⟩)]
def wormtubref04_Plates_k1  (x1 : Int × Int) : Option (Int × Int × Int) :=
(bif decide (x1.1 < 0) then
(some (0, 0, 12))
else
(some (x1.1, x1.2, 0)))
def wormtubref04_Plates_l1 (fuel : Nat) (c : MCurve) (to' : Int) : Nat → (Int × Int × Int × Int × Int) → Option (Lp (Int × Int) (Int × Int × Int))
  | 0, _ => none
  | n + 1, b1 =>
    (bif decide (b1.2.2.2.2 ≤ 100) then
    ((bif (decide (to' ≤ b1.2.2.2.1) && decide (b1.1 < 0)) then
    (some b1.2.2.2.2)
    else
    (some b1.1)).bind fun (j1 : Int) =>
    (bif (decide (to' ≤ b1.2.2.1) && decide (b1.2.1 < 0)) then
    (some b1.2.2.2.2)
    else
    (some b1.2.1)).bind fun (j2 : Int) =>
    (wormtubref04_vapour fuel c (MSpan.mk b1.2.2.1 b1.2.2.1)).bind fun (r4 : MSpan) =>
    (wormtubref04_vapour fuel c (MSpan.mk b1.2.2.2.1 b1.2.2.2.1)).bind fun (r5 : MSpan) =>
    grd (InI64 (b1.2.2.2.2 + 1)) <|
    wormtubref04_Plates_l1 fuel c to' n (j1, j2, r4.lo, r5.hi, (b1.2.2.2.2 + 1)))
    else
    (some (Lp.done (b1.1, b1.2.1))))
def wormtubref04_Plates (fuel : Nat) (c : MCurve) (from' : Int) (to' : Int) : Option (Int × Int × Int) :=
(wormtubref04_Curve fuel c).bind fun (r1 : Bool) =>
(bif (!r1) then
(some (0, 0, 1))
else
((wormtubref04_in from' 0 10000).bind fun (r2 : Bool) =>
((bif (!(!r2)) then wormtubref04_in to' 0 10000 else some default)).bind fun (r3 : Bool) =>
(bif ((!r2) || (!r3)) then
(some (0, 0, 2))
else
((wormtubref04_Plates_l1 fuel c to' fuel ((-1), (-1), from', from', 0)).bind fun lr1 => lr1.go fun x1 => wormtubref04_Plates_k1 x1))))
set_option maxRecDepth 100000 in
set_option maxHeartbeats 4000000 in
theorem wormtubref04_Plates_ok (fuel : Nat) (c : MCurve) (from' : Int) (to' : Int) (W : World) (A0 : Option Addr) (c0 : Nat) (h0 : c.liquid.length ≤ c0) (s0 : SlAt W A0 c.liquid.length 1 fun i => [.int .i64 (c.liquid.getD i default)]) (A1 : Option Addr) (c1 : Nat) (h1 : c.vapour.length ≤ c1) (s1 : SlAt W A1 c.vapour.length 2 fun i => [.int .i64 ((c.vapour.getD i default).lo), .int .i64 ((c.vapour.getD i default).hi)]) (res : Int × Int × Int) (h : wormtubref04_Plates fuel c from' to' = some res) :
    Calls Go.Proofs.Try.prog 37 #[.agg #[.slice A0 c.liquid.length c0, .slice A1 c.vapour.length c1], .int .i64 from', .int .i64 to'] W fun e w' => e = .returned (.tuple #[.int .i64 res.1, .int .i64 res.2.1, .int .i64 res.2.2]) ∧ Below W.heap.size W w' := by
  refine sym_call (f := 37) (fn := Go.Proofs.Try.f37) (c := Go.Proofs.Try.f37.body.get rfl) Go.Proofs.Try.func37 rfl [.agg [.sl 0, .sl 1], .v (.int .i64 from'), .v (.int .i64 to')] (wormtubref04_Plates_R c) [] (envOf [(0, ⟨A0, c.liquid.length, c0, 1⟩), (1, ⟨A1, c.vapour.length, c1, 2⟩)]) allR (fun _ _ => rfl) (by kernel_rfl) (envOf_one trivial) ⟨s0.rd h0, s1.rd h1, trivial⟩ (AllRR.all _ _) trivial fun E a w S => ?_
  rw [wormtubref04_Plates] at h
  refine sym_seq lay_ok mixed [(0, { g := 0 })] [1, 2, 3] [0] (⟨[(1, .v (.int .i64 from')), (2, .v (.int .i64 to')), (3, .own 0 0)], ⟨[(0, .blk 25 [.sl 0, .sl 1])], (wormtubref04_Plates_R c), []⟩⟩) [] S (by kernel_rfl) (by kernel_rfl) (by kernel_rfl) trivial ?_
  clear S; intro E a w S
  refine wp_seq ?_
  obtain ⟨r1, e1, h⟩ := bind_some h
  refine sym_seq lay_ok mixed [(1, { res := .v (.bool r1) })] [1, 2, 3, 16] [0] (⟨[(1, .v (.int .i64 from')), (2, .v (.int .i64 to')), (3, .own 0 0), (16, .v (.bool (!r1)))], ⟨[(0, .blk 25 [.sl 0, .sl 1])], (wormtubref04_Plates_R c), []⟩⟩) [.call ⟨[], (wormtubref04_Plates_R c), []⟩ 39 [.agg [.sl 0, .sl 1]] (.v (.bool r1))] S (by kernel_rfl) (by kernel_rfl) (by kernel_rfl) ⟨⟨enters_39, fun E W _ hm => by obtain ⟨A0, c0, q0, l0, s0, _⟩ := Mem.sl hm (s := 0) rfl; obtain ⟨A1, c1, q1, l1, s1, _⟩ := Mem.sl hm (s := 1) rfl; simp only [SV.vals, SV.val, q0, q1]; exact wormtubref04_Curve_ok fuel c W A0 c0 l0 s0 A1 c1 l1 s1 r1 e1⟩, trivial⟩ ?_
  clear S; intro E a w S
  refine sym_if_last (b := (!r1)) S rfl (fun hb1 => ?_) (fun hb1 => ?_)
  · have h := bif_t hb1 h
    refine sym_seq lay_ok mixed [] [6, 7, 8] [] (⟨[(6, .v (.int .i64 0)), (7, .v (.int .i64 0)), (8, .v (.int .i64 1))], ⟨[], (wormtubref04_Plates_R c), []⟩⟩) [] S (by kernel_rfl) (by kernel_rfl) (by kernel_rfl) trivial ?_
    clear S; intro E a w S
    refine wp_ret ?_
    refine out_then_ret ?_
    have h := Option.some.inj h
    subst h
    exact sym_ret lay_ok [.v (.int .i64 0), .v (.int .i64 0), .v (.int .i64 1)] (by kernel_rfl) rfl S ⟨rfl, S.below rfl⟩
  · have h := bif_f hb1 h
    refine wp_skip ?_
    refine out_then_normal ?_
    refine wp_seq ?_
    obtain ⟨r2, e2, h⟩ := bind_some h
    obtain ⟨r3, e3, h⟩ := bind_some h
    refine sym_seq lay_ok mixed [(1, { res := .v (.bool r2) }), (4, { og := true }), (5, { og := true, res := .v (.bool r3) }), (6, { og := true }), (7, { pk := true })] [1, 2, 3, 24] [0] (⟨[(1, .v (.int .i64 from')), (2, .v (.int .i64 to')), (3, .own 0 0), (24, .v (.bool ((!r2) || (!r3))))], ⟨[(0, .blk 25 [.sl 0, .sl 1])], (wormtubref04_Plates_R c), []⟩⟩) [.call ⟨[], (wormtubref04_Plates_R c), []⟩ 51 [.v (.int .i64 from'), .v (.int .i64 0), .v (.int .i64 10000)] (.v (.bool r2)), .imp (!(!r2)) (!(!r2)), .when (!(!r2)) (.call ⟨[], (wormtubref04_Plates_R c), []⟩ 51 [.v (.int .i64 to'), .v (.int .i64 0), .v (.int .i64 10000)] (.v (.bool r3))), .imp (!(!r2)) (!(!r2)), .imp (!(!r2)) (!(!r2))] S (by kernel_rfl) (by kernel_rfl) (by kernel_rfl) ⟨⟨enters_51, fun _ W _ _ => wormtubref04_in_ok from' 0 10000 W r2 e2⟩, fun h => h, fun hW => ⟨enters_51, fun _ W _ _ => wormtubref04_in_ok to' 0 10000 W r3 (bif_t hW e3)⟩, fun h => h, fun h => h, trivial⟩ ?_
    clear S; intro E a w S
    refine sym_if_last (b := ((!r2) || (!r3))) S rfl (fun hb2 => ?_) (fun hb2 => ?_)
    · have h := bif_t hb2 h
      refine sym_seq lay_ok mixed [] [6, 7, 8] [] (⟨[(6, .v (.int .i64 0)), (7, .v (.int .i64 0)), (8, .v (.int .i64 2))], ⟨[], (wormtubref04_Plates_R c), []⟩⟩) [] S (by kernel_rfl) (by kernel_rfl) (by kernel_rfl) trivial ?_
      clear S; intro E a w S
      refine wp_ret ?_
      refine out_then_ret ?_
      have h := Option.some.inj h
      subst h
      exact sym_ret lay_ok [.v (.int .i64 0), .v (.int .i64 0), .v (.int .i64 2)] (by kernel_rfl) rfl S ⟨rfl, S.below rfl⟩
    · have h := bif_f hb2 h
      refine wp_skip ?_
      refine out_then_normal ?_
      refine sym_seq lay_ok mixed [] [1, 2, 3, 9, 10] [0] (⟨[(1, .v (.int .i64 from')), (2, .v (.int .i64 to')), (3, .own 0 0), (9, .v (.int .i64 (-1))), (10, .v (.int .i64 (-1)))], ⟨[(0, .blk 25 [.sl 0, .sl 1])], (wormtubref04_Plates_R c), []⟩⟩) [] S (by kernel_rfl) (by kernel_rfl) (by kernel_rfl) trivial ?_
      clear S; intro E a w S
      refine sym_seq lay_ok mixed [] [2, 3, 9, 10, 11, 12] [0] (⟨[(2, .v (.int .i64 to')), (3, .own 0 0), (9, .v (.int .i64 (-1))), (10, .v (.int .i64 (-1))), (11, .v (.int .i64 from')), (12, .v (.int .i64 from'))], ⟨[(0, .blk 25 [.sl 0, .sl 1])], (wormtubref04_Plates_R c), []⟩⟩) [] S (by kernel_rfl) (by kernel_rfl) (by kernel_rfl) trivial ?_
      clear S; intro E a w S
      refine wp_seq ?_
      refine sym_seq lay_ok mixed [] [2, 3, 9, 10, 11, 12, 13] [0] (⟨[(2, .v (.int .i64 to')), (3, .own 0 0), (9, .v (.int .i64 (-1))), (10, .v (.int .i64 (-1))), (11, .v (.int .i64 from')), (12, .v (.int .i64 from')), (13, .v (.int .i64 0))], ⟨[(0, .blk 25 [.sl 0, .sl 1])], (wormtubref04_Plates_R c), []⟩⟩) [] S (by kernel_rfl) (by kernel_rfl) (by kernel_rfl) trivial ?_
      clear S; intro E a w S
      obtain ⟨lr1, e4, hp1⟩ := bind_some h
      clear h
      refine sym_block_last (G := fun a w => ∃ E, ∃ x1 : Int × Int, wormtubref04_Plates_k1 x1 = some res ∧ St ⟨W, noC, Go.Proofs.Try.f37.ntmps, [], allR, noρ, (envOf [(0, ⟨A0, c.liquid.length, c0, 1⟩), (1, ⟨A1, c.vapour.length, c1, 2⟩)]).sl, (envOf [(0, ⟨A0, c.liquid.length, c0, 1⟩), (1, ⟨A1, c.vapour.length, c1, 2⟩)]).x⟩ (⟨[(9, .v (.int .i64 x1.1)), (10, .v (.int .i64 x1.2))], ⟨[], (wormtubref04_Plates_R c), []⟩⟩) E a w) ?_ ?_
      · refine wp_loop_rounds fuel ?_
        refine sym_rounds (F := fun n b1 => wormtubref04_Plates_l1 fuel c to' n b1 = some lr1) (H := fun b1 => ⟨[(2, .v (.int .i64 to')), (3, .own 0 0), (9, .v (.int .i64 b1.1)), (10, .v (.int .i64 b1.2.1)), (11, .v (.int .i64 b1.2.2.1)), (12, .v (.int .i64 b1.2.2.2.1)), (13, .v (.int .i64 b1.2.2.2.2))], ⟨[(0, .blk 25 [.sl 0, .sl 1])], (wormtubref04_Plates_R c), []⟩⟩) ((-1), (-1), from', from', 0) (fun b hb => by have hb : none = some lr1 := hb; cases hb) ?_ _ _ _ _ e4 (St.cast (P := Go.Proofs.Try.prog) [] [] [2, 3, 9, 10, 11, 12, 13] [0] [0, 1] _ [] (by kernel_rfl) trivial S)
        clear e4 S
        intro n b1 E a w h ih S
        rw [wormtubref04_Plates_l1] at h
        refine wp_seq ?_
        refine sym_seq lay_ok mixed [] [2, 3, 9, 10, 11, 12, 13, 28] [0] (⟨[(2, .v (.int .i64 to')), (3, .own 0 0), (9, .v (.int .i64 b1.1)), (10, .v (.int .i64 b1.2.1)), (11, .v (.int .i64 b1.2.2.1)), (12, .v (.int .i64 b1.2.2.2.1)), (13, .v (.int .i64 b1.2.2.2.2)), (28, .v (.bool (decide (b1.2.2.2.2 ≤ 100))))], ⟨[(0, .blk 25 [.sl 0, .sl 1])], (wormtubref04_Plates_R c), []⟩⟩) [] S (by kernel_rfl) (by kernel_rfl) (by kernel_rfl) trivial ?_
        clear S; intro E a w S
        refine sym_if_last (b := decide (b1.2.2.2.2 ≤ 100)) S rfl (fun hb3 => ?_) (fun hb3 => ?_)
        · have h := bif_t hb3 h
          refine wp_skip ?_
          refine out_then_normal ?_
          refine wp_seq ?_
          refine wp_block ?_
          refine wp_seq ?_
          refine sym_seq lay_ok mixed [(4, { og := true }), (5, { og := true }), (6, { pk := true })] [2, 3, 9, 10, 11, 12, 13, 37] [0] (⟨[(2, .v (.int .i64 to')), (3, .own 0 0), (9, .v (.int .i64 b1.1)), (10, .v (.int .i64 b1.2.1)), (11, .v (.int .i64 b1.2.2.1)), (12, .v (.int .i64 b1.2.2.2.1)), (13, .v (.int .i64 b1.2.2.2.2)), (37, .v (.bool (decide (to' ≤ b1.2.2.2.1) && decide (b1.1 < 0))))], ⟨[(0, .blk 25 [.sl 0, .sl 1])], (wormtubref04_Plates_R c), []⟩⟩) [.imp (decide (to' ≤ b1.2.2.2.1)) (decide (to' ≤ b1.2.2.2.1)), .imp (decide (to' ≤ b1.2.2.2.1)) (decide (to' ≤ b1.2.2.2.1))] S (by kernel_rfl) (by kernel_rfl) (by kernel_rfl) ⟨fun h => h, fun h => h, trivial⟩ ?_
          clear S; intro E a w S
          obtain ⟨j1, e8, h⟩ := bind_some h
          refine sym_meet_last (b := (decide (to' ≤ b1.2.2.2.1) && decide (b1.1 < 0))) (⟨[(2, .v (.int .i64 to')), (3, .own 0 0), (9, .v (.int .i64 j1)), (10, .v (.int .i64 b1.2.1)), (11, .v (.int .i64 b1.2.2.1)), (12, .v (.int .i64 b1.2.2.2.1)), (13, .v (.int .i64 b1.2.2.2.2))], ⟨[(0, .blk 25 [.sl 0, .sl 1])], (wormtubref04_Plates_R c), []⟩⟩) S rfl (fun hb4 => ?_) (fun hb4 => ?_) ?_
          · clear h; have h := bif_t hb4 e8
            refine sym_last lay_ok mixed [] [2, 3, 9, 10, 11, 12, 13] [0] (⟨[(2, .v (.int .i64 to')), (3, .own 0 0), (9, .v (.int .i64 b1.2.2.2.2)), (10, .v (.int .i64 b1.2.1)), (11, .v (.int .i64 b1.2.2.1)), (12, .v (.int .i64 b1.2.2.2.1)), (13, .v (.int .i64 b1.2.2.2.2))], ⟨[(0, .blk 25 [.sl 0, .sl 1])], (wormtubref04_Plates_R c), []⟩⟩) [] S (by kernel_rfl) (by kernel_rfl) (by kernel_rfl) trivial ?_
            clear S; intro E a w S
            have hj := Option.some.inj h
            subst hj
            refine out_then_normal ?_
            exact ⟨_, St.cast (P := Go.Proofs.Try.prog) [] [] [2, 3, 9, 10, 11, 12, 13] [0] [0, 1] _ [] (by kernel_rfl) trivial S⟩
          · clear h; have h := bif_f hb4 e8
            refine wp_skip ?_
            have hj := Option.some.inj h
            subst hj
            refine out_then_normal ?_
            exact ⟨_, St.cast (P := Go.Proofs.Try.prog) [] [] [2, 3, 9, 10, 11, 12, 13] [0] [0, 1] _ [] (by kernel_rfl) trivial S⟩
          clear S; intro E a w S
          refine out_then_normal ?_
          refine wp_seq ?_
          refine sym_seq lay_ok mixed [(4, { og := true }), (5, { og := true }), (6, { pk := true })] [2, 3, 9, 10, 11, 12, 13, 45] [0] (⟨[(2, .v (.int .i64 to')), (3, .own 0 0), (9, .v (.int .i64 j1)), (10, .v (.int .i64 b1.2.1)), (11, .v (.int .i64 b1.2.2.1)), (12, .v (.int .i64 b1.2.2.2.1)), (13, .v (.int .i64 b1.2.2.2.2)), (45, .v (.bool (decide (to' ≤ b1.2.2.1) && decide (b1.2.1 < 0))))], ⟨[(0, .blk 25 [.sl 0, .sl 1])], (wormtubref04_Plates_R c), []⟩⟩) [.imp (decide (to' ≤ b1.2.2.1)) (decide (to' ≤ b1.2.2.1)), .imp (decide (to' ≤ b1.2.2.1)) (decide (to' ≤ b1.2.2.1))] S (by kernel_rfl) (by kernel_rfl) (by kernel_rfl) ⟨fun h => h, fun h => h, trivial⟩ ?_
          clear S; intro E a w S
          obtain ⟨j2, e7, h⟩ := bind_some h
          refine sym_meet_last (b := (decide (to' ≤ b1.2.2.1) && decide (b1.2.1 < 0))) (⟨[(2, .v (.int .i64 to')), (3, .own 0 0), (9, .v (.int .i64 j1)), (10, .v (.int .i64 j2)), (11, .v (.int .i64 b1.2.2.1)), (12, .v (.int .i64 b1.2.2.2.1)), (13, .v (.int .i64 b1.2.2.2.2))], ⟨[(0, .blk 25 [.sl 0, .sl 1])], (wormtubref04_Plates_R c), []⟩⟩) S rfl (fun hb5 => ?_) (fun hb5 => ?_) ?_
          · clear h; have h := bif_t hb5 e7
            refine sym_last lay_ok mixed [] [2, 3, 9, 10, 11, 12, 13] [0] (⟨[(2, .v (.int .i64 to')), (3, .own 0 0), (9, .v (.int .i64 j1)), (10, .v (.int .i64 b1.2.2.2.2)), (11, .v (.int .i64 b1.2.2.1)), (12, .v (.int .i64 b1.2.2.2.1)), (13, .v (.int .i64 b1.2.2.2.2))], ⟨[(0, .blk 25 [.sl 0, .sl 1])], (wormtubref04_Plates_R c), []⟩⟩) [] S (by kernel_rfl) (by kernel_rfl) (by kernel_rfl) trivial ?_
            clear S; intro E a w S
            have hj := Option.some.inj h
            subst hj
            refine out_then_normal ?_
            exact ⟨_, St.cast (P := Go.Proofs.Try.prog) [] [] [2, 3, 9, 10, 11, 12, 13] [0] [0, 1] _ [] (by kernel_rfl) trivial S⟩
          · clear h; have h := bif_f hb5 e7
            refine wp_skip ?_
            have hj := Option.some.inj h
            subst hj
            refine out_then_normal ?_
            exact ⟨_, St.cast (P := Go.Proofs.Try.prog) [] [] [2, 3, 9, 10, 11, 12, 13] [0] [0, 1] _ [] (by kernel_rfl) trivial S⟩
          clear S; intro E a w S
          refine out_then_normal ?_
          obtain ⟨r4, e5, h⟩ := bind_some h
          refine sym_seq lay_ok mixed [(4, { res := .agg [.v (.int .i64 r4.lo), .v (.int .i64 r4.hi)] })] [2, 3, 9, 10, 11, 12, 13] [0] (⟨[(2, .v (.int .i64 to')), (3, .own 0 0), (9, .v (.int .i64 j1)), (10, .v (.int .i64 j2)), (11, .v (.int .i64 r4.lo)), (12, .v (.int .i64 b1.2.2.2.1)), (13, .v (.int .i64 b1.2.2.2.2))], ⟨[(0, .blk 25 [.sl 0, .sl 1])], (wormtubref04_Plates_R c), []⟩⟩) [.call ⟨[], (wormtubref04_Plates_R c), []⟩ 50 [.agg [.sl 0, .sl 1], .agg [.v (.int .i64 b1.2.2.1), .v (.int .i64 b1.2.2.1)]] (.agg [.v (.int .i64 r4.lo), .v (.int .i64 r4.hi)])] S (by kernel_rfl) (by kernel_rfl) (by kernel_rfl) ⟨⟨enters_50, fun E W _ hm => by obtain ⟨A0, c0, q0, l0, s0, _⟩ := Mem.sl hm (s := 0) rfl; obtain ⟨A1, c1, q1, l1, s1, _⟩ := Mem.sl hm (s := 1) rfl; simp only [SV.vals, SV.val, q0, q1]; exact wormtubref04_vapour_ok fuel c (MSpan.mk b1.2.2.1 b1.2.2.1) W A0 c0 l0 s0 A1 c1 l1 s1 r4 e5⟩, trivial⟩ ?_
          clear S; intro E a w S
          obtain ⟨r5, e6, h⟩ := bind_some h
          refine sym_last lay_ok mixed [(4, { res := .agg [.v (.int .i64 r5.lo), .v (.int .i64 r5.hi)] })] [2, 3, 9, 10, 11, 12, 13] [0] (⟨[(2, .v (.int .i64 to')), (3, .own 0 0), (9, .v (.int .i64 j1)), (10, .v (.int .i64 j2)), (11, .v (.int .i64 r4.lo)), (12, .v (.int .i64 r5.hi)), (13, .v (.int .i64 b1.2.2.2.2))], ⟨[(0, .blk 25 [.sl 0, .sl 1])], (wormtubref04_Plates_R c), []⟩⟩) [.call ⟨[], (wormtubref04_Plates_R c), []⟩ 50 [.agg [.sl 0, .sl 1], .agg [.v (.int .i64 b1.2.2.2.1), .v (.int .i64 b1.2.2.2.1)]] (.agg [.v (.int .i64 r5.lo), .v (.int .i64 r5.hi)])] S (by kernel_rfl) (by kernel_rfl) (by kernel_rfl) ⟨⟨enters_50, fun E W _ hm => by obtain ⟨A0, c0, q0, l0, s0, _⟩ := Mem.sl hm (s := 0) rfl; obtain ⟨A1, c1, q1, l1, s1, _⟩ := Mem.sl hm (s := 1) rfl; simp only [SV.vals, SV.val, q0, q1]; exact wormtubref04_vapour_ok fuel c (MSpan.mk b1.2.2.2.1 b1.2.2.2.1) W A0 c0 l0 s0 A1 c1 l1 s1 r5 e6⟩, trivial⟩ ?_
          clear S; intro E a w S
          refine out_block_normal ?_
          refine out_then_normal ?_
          obtain ⟨g1, h⟩ := grd_some h
          refine sym_last lay_ok mixed [] [2, 3, 9, 10, 11, 12, 13] [0] (⟨[(2, .v (.int .i64 to')), (3, .own 0 0), (9, .v (.int .i64 j1)), (10, .v (.int .i64 j2)), (11, .v (.int .i64 r4.lo)), (12, .v (.int .i64 r5.hi)), (13, .v (.int .i64 (b1.2.2.2.2 + 1)))], ⟨[(0, .blk 25 [.sl 0, .sl 1])], (wormtubref04_Plates_R c), []⟩⟩) [.rng .i64 (b1.2.2.2.2 + 1)] S (by kernel_rfl) (by kernel_rfl) (by kernel_rfl) ⟨rngI64 g1, trivial⟩ ?_
          clear S; intro E a w S
          refine out_then_normal ?_
          exact ih (j1, j2, r4.lo, r5.hi, (b1.2.2.2.2 + 1)) _ _ _ h (St.cast (P := Go.Proofs.Try.prog) [] [] [2, 3, 9, 10, 11, 12, 13] [0] [0, 1] _ [] (by kernel_rfl) trivial S)
        · have h := bif_f hb3 h
          refine wp_exit ?_
          refine out_then_exit ?_
          refine out_then_exit ?_
          refine out_block_here ?_
          refine out_then_normal ?_
          have hr := Option.some.inj h
          subst hr
          exact ⟨_, (b1.1, b1.2.1), hp1, St.cast (P := Go.Proofs.Try.prog) [] [] [9, 10] [] [0, 1] _ [] (by kernel_rfl) trivial S⟩
      clear e4 S
      rintro a w ⟨E, x1, h, S⟩
      rw [wormtubref04_Plates_k1] at h
      refine out_then_normal ?_
      refine wp_seq ?_
      refine sym_seq lay_ok mixed [] [9, 10, 60] [] (⟨[(9, .v (.int .i64 x1.1)), (10, .v (.int .i64 x1.2)), (60, .v (.bool (decide (x1.1 < 0))))], ⟨[], (wormtubref04_Plates_R c), []⟩⟩) [] S (by kernel_rfl) (by kernel_rfl) (by kernel_rfl) trivial ?_
      clear S; intro E a w S
      refine sym_if_last (b := decide (x1.1 < 0)) S rfl (fun hb6 => ?_) (fun hb6 => ?_)
      · have h := bif_t hb6 h
        refine sym_seq lay_ok mixed [] [6, 7, 8] [] (⟨[(6, .v (.int .i64 0)), (7, .v (.int .i64 0)), (8, .v (.int .i64 12))], ⟨[], (wormtubref04_Plates_R c), []⟩⟩) [] S (by kernel_rfl) (by kernel_rfl) (by kernel_rfl) trivial ?_
        clear S; intro E a w S
        refine wp_ret ?_
        refine out_then_ret ?_
        have h := Option.some.inj h
        subst h
        exact sym_ret lay_ok [.v (.int .i64 0), .v (.int .i64 0), .v (.int .i64 12)] (by kernel_rfl) rfl S ⟨rfl, S.below rfl⟩
      · have h := bif_f hb6 h
        refine wp_skip ?_
        refine out_then_normal ?_
        refine sym_seq lay_ok mixed [] [6, 7, 8] [] (⟨[(6, .v (.int .i64 x1.1)), (7, .v (.int .i64 x1.2)), (8, .v (.int .i64 0))], ⟨[], (wormtubref04_Plates_R c), []⟩⟩) [] S (by kernel_rfl) (by kernel_rfl) (by kernel_rfl) trivial ?_
        clear S; intro E a w S
        refine wp_ret ?_
        have h := Option.some.inj h
        subst h
        exact sym_ret lay_ok [.v (.int .i64 x1.1), .v (.int .i64 x1.2), .v (.int .i64 0)] (by kernel_rfl) rfl S ⟨rfl, S.below rfl⟩
def wormtubref04_draw_R (c : MCurve) : List (Nat × Q) := [(0, ⟨c.liquid.length, 1, fun i => [.int .i64 (c.liquid.getD i default)]⟩), (1, ⟨c.vapour.length, 2, fun i => [.int .i64 ((c.vapour.getD i default).lo), .int .i64 ((c.vapour.getD i default).hi)]⟩)]
def wormtubref04_draw (fuel : Nat) (c : MCurve) (p : MPot) (d : Int) : Option (MDrawn × MPot) :=
(wormtubref04_strong (MSpan.mk p.alcohol.lo p.alcohol.hi) p.volume).bind fun (r1 : MSpan) =>
grd (InI64 (p.volume - d)) <|
(wormtubref04_vapour fuel c r1).bind fun (r2 : MSpan) =>
grd (InI64 (d * r2.hi)) <|
(wormtubref04_up (d * r2.hi) 10000).bind fun (r3 : Int) =>
grd (InI64 (p.alcohol.lo - (min p.alcohol.hi r3))) <|
(wormtubref04_strong (MSpan.mk (max 0 (p.alcohol.lo - (min p.alcohol.hi r3))) (max 0 (p.alcohol.lo - (min p.alcohol.hi r3)))) (p.volume - d)).bind fun (r4 : MSpan) =>
grd (InI64 (p.alcohol.lo - (p.volume - d))) <|
(wormtubref04_vapour fuel c (MSpan.mk (min r1.lo r4.lo) (min r1.lo r4.lo))).bind fun (r5 : MSpan) =>
grd (InI64 (d * r5.lo) ∧ InI64 ((d * r5.lo).tdiv 10000)) <|
grd (InI64 (p.alcohol.hi - (max (p.alcohol.lo - (p.volume - d)) ((d * r5.lo).tdiv 10000))) ∧ InI64 (p.alcohol.hi * (p.volume - d))) <|
(wormtubref04_up (p.alcohol.hi * (p.volume - d)) p.volume).bind fun (r6 : Int) =>
some ((MDrawn.mk d (MSpan.mk (max (p.alcohol.lo - (p.volume - d)) ((d * r5.lo).tdiv 10000)) (min p.alcohol.hi r3))), (MPot.mk (p.volume - d) (MSpan.mk (max 0 (p.alcohol.lo - (min p.alcohol.hi r3))) (min (min (p.alcohol.hi - (max (p.alcohol.lo - (p.volume - d)) ((d * r5.lo).tdiv 10000))) (p.volume - d)) r6))))
set_option maxRecDepth 100000 in
set_option maxHeartbeats 4000000 in
theorem wormtubref04_draw_ok (fuel : Nat) (c : MCurve) (p : MPot) (d : Int) (W : World) (A0 : Option Addr) (c0 : Nat) (h0 : c.liquid.length ≤ c0) (s0 : SlAt W A0 c.liquid.length 1 fun i => [.int .i64 (c.liquid.getD i default)]) (A1 : Option Addr) (c1 : Nat) (h1 : c.vapour.length ≤ c1) (s1 : SlAt W A1 c.vapour.length 2 fun i => [.int .i64 ((c.vapour.getD i default).lo), .int .i64 ((c.vapour.getD i default).hi)]) (res : MDrawn × MPot) (h : wormtubref04_draw fuel c p d = some res) :
    Calls Go.Proofs.Try.prog 52 #[.agg #[.slice A0 c.liquid.length c0, .slice A1 c.vapour.length c1], .agg #[.int .i64 p.volume, .int .i64 p.alcohol.lo, .int .i64 p.alcohol.hi], .int .i64 d] W fun e w' => e = .returned (.tuple #[.agg #[.int .i64 res.1.amount, .int .i64 res.1.alcohol.lo, .int .i64 res.1.alcohol.hi], .agg #[.int .i64 res.2.volume, .int .i64 res.2.alcohol.lo, .int .i64 res.2.alcohol.hi]]) ∧ Below W.heap.size W w' := by
  refine sym_call (f := 52) (fn := Go.Proofs.Try.f52) (c := Go.Proofs.Try.f52.body.get rfl) Go.Proofs.Try.func52 rfl [.agg [.sl 0, .sl 1], .agg [.v (.int .i64 p.volume), .v (.int .i64 p.alcohol.lo), .v (.int .i64 p.alcohol.hi)], .v (.int .i64 d)] (wormtubref04_draw_R c) [] (envOf [(0, ⟨A0, c.liquid.length, c0, 1⟩), (1, ⟨A1, c.vapour.length, c1, 2⟩)]) allR (fun _ _ => rfl) (by kernel_rfl) (envOf_one trivial) ⟨s0.rd h0, s1.rd h1, trivial⟩ (AllRR.all _ _) trivial fun E a w S => ?_
  rw [wormtubref04_draw] at h
  refine sym_seq lay_ok mixed [(0, { g := 0 }), (1, { g := 1 }), (2, { g := 2 }), (3, { g := 3 })] [2, 3, 4, 6, 7] [0, 1, 2, 3] (⟨[(2, .v (.int .i64 d)), (3, .own 0 0), (4, .own 1 0), (6, .own 2 0), (7, .own 3 0)], ⟨[(0, .blk 25 [.sl 0, .sl 1]), (1, .blk 29 [.v (.int .i64 p.volume), .v (.int .i64 p.alcohol.lo), .v (.int .i64 p.alcohol.hi)]), (2, .blk 36 [.v (.int .i64 0), .v (.int .i64 0), .v (.int .i64 0)]), (3, .blk 29 [.v (.int .i64 0), .v (.int .i64 0), .v (.int .i64 0)])], (wormtubref04_draw_R c), []⟩⟩) [] S (by kernel_rfl) (by kernel_rfl) (by kernel_rfl) trivial ?_
  clear S; intro E a w S
  obtain ⟨r1, e1, h⟩ := bind_some h
  refine sym_seq lay_ok mixed [(4, { res := .agg [.v (.int .i64 r1.lo), .v (.int .i64 r1.hi)] }), (5, { g := 4 })] [2, 3, 4, 6, 7, 8] [0, 1, 2, 3, 4] (⟨[(2, .v (.int .i64 d)), (3, .own 0 0), (4, .own 1 0), (6, .own 2 0), (7, .own 3 0), (8, .own 4 0)], ⟨[(0, .blk 25 [.sl 0, .sl 1]), (1, .blk 29 [.v (.int .i64 p.volume), .v (.int .i64 p.alcohol.lo), .v (.int .i64 p.alcohol.hi)]), (2, .blk 36 [.v (.int .i64 0), .v (.int .i64 0), .v (.int .i64 0)]), (3, .blk 29 [.v (.int .i64 0), .v (.int .i64 0), .v (.int .i64 0)]), (4, .blk 27 [.v (.int .i64 r1.lo), .v (.int .i64 r1.hi)])], (wormtubref04_draw_R c), []⟩⟩) [.call ⟨[], (wormtubref04_draw_R c), []⟩ 58 [.agg [.v (.int .i64 p.alcohol.lo), .v (.int .i64 p.alcohol.hi)], .v (.int .i64 p.volume)] (.agg [.v (.int .i64 r1.lo), .v (.int .i64 r1.hi)])] S (by kernel_rfl) (by kernel_rfl) (by kernel_rfl) ⟨⟨enters_58, fun _ W _ _ => wormtubref04_strong_ok (MSpan.mk p.alcohol.lo p.alcohol.hi) p.volume W r1 e1⟩, trivial⟩ ?_
  clear S; intro E a w S
  obtain ⟨g1, h⟩ := grd_some h
  refine sym_seq lay_ok mixed [] [2, 3, 4, 6, 7, 8, 9] [0, 1, 2, 3, 4] (⟨[(2, .v (.int .i64 d)), (3, .own 0 0), (4, .own 1 0), (6, .own 2 0), (7, .own 3 0), (8, .own 4 0), (9, .v (.int .i64 (p.volume - d)))], ⟨[(0, .blk 25 [.sl 0, .sl 1]), (1, .blk 29 [.v (.int .i64 p.volume), .v (.int .i64 p.alcohol.lo), .v (.int .i64 p.alcohol.hi)]), (2, .blk 36 [.v (.int .i64 0), .v (.int .i64 0), .v (.int .i64 0)]), (3, .blk 29 [.v (.int .i64 0), .v (.int .i64 0), .v (.int .i64 0)]), (4, .blk 27 [.v (.int .i64 r1.lo), .v (.int .i64 r1.hi)])], (wormtubref04_draw_R c), []⟩⟩) [.rng .i64 (p.volume - d)] S (by kernel_rfl) (by kernel_rfl) (by kernel_rfl) ⟨rngI64 g1, trivial⟩ ?_
  clear S; intro E a w S
  obtain ⟨r2, e2, h⟩ := bind_some h
  obtain ⟨g2, h⟩ := grd_some h
  obtain ⟨r3, e3, h⟩ := bind_some h
  refine sym_seq lay_ok mixed [(6, { res := .agg [.v (.int .i64 r2.lo), .v (.int .i64 r2.hi)] }), (9, { res := .v (.int .i64 r3) })] [2, 3, 4, 6, 7, 8, 9, 10] [0, 1, 2, 3, 4] (⟨[(2, .v (.int .i64 d)), (3, .own 0 0), (4, .own 1 0), (6, .own 2 0), (7, .own 3 0), (8, .own 4 0), (9, .v (.int .i64 (p.volume - d))), (10, .v (.int .i64 (min p.alcohol.hi r3)))], ⟨[(0, .blk 25 [.sl 0, .sl 1]), (1, .blk 29 [.v (.int .i64 p.volume), .v (.int .i64 p.alcohol.lo), .v (.int .i64 p.alcohol.hi)]), (2, .blk 36 [.v (.int .i64 0), .v (.int .i64 0), .v (.int .i64 0)]), (3, .blk 29 [.v (.int .i64 0), .v (.int .i64 0), .v (.int .i64 0)]), (4, .blk 27 [.v (.int .i64 r1.lo), .v (.int .i64 r1.hi)])], (wormtubref04_draw_R c), []⟩⟩) [.call ⟨[], (wormtubref04_draw_R c), []⟩ 50 [.agg [.sl 0, .sl 1], .agg [.v (.int .i64 r1.lo), .v (.int .i64 r1.hi)]] (.agg [.v (.int .i64 r2.lo), .v (.int .i64 r2.hi)]), .rng .i64 (d * r2.hi), .call ⟨[], (wormtubref04_draw_R c), []⟩ 60 [.v (.int .i64 (d * r2.hi)), .v (.int .i64 10000)] (.v (.int .i64 r3))] S (by kernel_rfl) (by kernel_rfl) (by kernel_rfl) ⟨⟨enters_50, fun E W _ hm => by obtain ⟨A0, c0, q0, l0, s0, _⟩ := Mem.sl hm (s := 0) rfl; obtain ⟨A1, c1, q1, l1, s1, _⟩ := Mem.sl hm (s := 1) rfl; simp only [SV.vals, SV.val, q0, q1]; exact wormtubref04_vapour_ok fuel c r1 W A0 c0 l0 s0 A1 c1 l1 s1 r2 e2⟩, rngI64 g2, ⟨enters_60, fun _ W _ _ => wormtubref04_up_ok (d * r2.hi) 10000 W r3 e3⟩, trivial⟩ ?_
  clear S; intro E a w S
  obtain ⟨g3, h⟩ := grd_some h
  refine sym_seq lay_ok mixed [] [2, 3, 4, 6, 7, 8, 9, 10, 11] [0, 1, 2, 3, 4] (⟨[(2, .v (.int .i64 d)), (3, .own 0 0), (4, .own 1 0), (6, .own 2 0), (7, .own 3 0), (8, .own 4 0), (9, .v (.int .i64 (p.volume - d))), (10, .v (.int .i64 (min p.alcohol.hi r3))), (11, .v (.int .i64 (max 0 (p.alcohol.lo - (min p.alcohol.hi r3)))))], ⟨[(0, .blk 25 [.sl 0, .sl 1]), (1, .blk 29 [.v (.int .i64 p.volume), .v (.int .i64 p.alcohol.lo), .v (.int .i64 p.alcohol.hi)]), (2, .blk 36 [.v (.int .i64 0), .v (.int .i64 0), .v (.int .i64 0)]), (3, .blk 29 [.v (.int .i64 0), .v (.int .i64 0), .v (.int .i64 0)]), (4, .blk 27 [.v (.int .i64 r1.lo), .v (.int .i64 r1.hi)])], (wormtubref04_draw_R c), []⟩⟩) [.rng .i64 (p.alcohol.lo - (min p.alcohol.hi r3))] S (by kernel_rfl) (by kernel_rfl) (by kernel_rfl) ⟨rngI64 g3, trivial⟩ ?_
  clear S; intro E a w S
  obtain ⟨r4, e4, h⟩ := bind_some h
  refine sym_seq lay_ok mixed [(6, { res := .agg [.v (.int .i64 r4.lo), .v (.int .i64 r4.hi)] })] [2, 3, 4, 6, 7, 9, 10, 11, 12] [0, 1, 2, 3] (⟨[(2, .v (.int .i64 d)), (3, .own 0 0), (4, .own 1 0), (6, .own 2 0), (7, .own 3 0), (9, .v (.int .i64 (p.volume - d))), (10, .v (.int .i64 (min p.alcohol.hi r3))), (11, .v (.int .i64 (max 0 (p.alcohol.lo - (min p.alcohol.hi r3))))), (12, .v (.int .i64 (min r1.lo r4.lo)))], ⟨[(0, .blk 25 [.sl 0, .sl 1]), (1, .blk 29 [.v (.int .i64 p.volume), .v (.int .i64 p.alcohol.lo), .v (.int .i64 p.alcohol.hi)]), (2, .blk 36 [.v (.int .i64 0), .v (.int .i64 0), .v (.int .i64 0)]), (3, .blk 29 [.v (.int .i64 0), .v (.int .i64 0), .v (.int .i64 0)])], (wormtubref04_draw_R c), []⟩⟩) [.call ⟨[], (wormtubref04_draw_R c), []⟩ 58 [.agg [.v (.int .i64 (max 0 (p.alcohol.lo - (min p.alcohol.hi r3)))), .v (.int .i64 (max 0 (p.alcohol.lo - (min p.alcohol.hi r3))))], .v (.int .i64 (p.volume - d))] (.agg [.v (.int .i64 r4.lo), .v (.int .i64 r4.hi)])] S (by kernel_rfl) (by kernel_rfl) (by kernel_rfl) ⟨⟨enters_58, fun _ W _ _ => wormtubref04_strong_ok (MSpan.mk (max 0 (p.alcohol.lo - (min p.alcohol.hi r3))) (max 0 (p.alcohol.lo - (min p.alcohol.hi r3)))) (p.volume - d) W r4 e4⟩, trivial⟩ ?_
  clear S; intro E a w S
  obtain ⟨g4, h⟩ := grd_some h
  obtain ⟨r5, e5, h⟩ := bind_some h
  obtain ⟨⟨g5, g6⟩, h⟩ := grd_some h
  refine sym_seq lay_ok mixed [(10, { res := .agg [.v (.int .i64 r5.lo), .v (.int .i64 r5.hi)] })] [2, 4, 6, 7, 9, 10, 11, 13] [1, 2, 3] (⟨[(2, .v (.int .i64 d)), (4, .own 1 0), (6, .own 2 0), (7, .own 3 0), (9, .v (.int .i64 (p.volume - d))), (10, .v (.int .i64 (min p.alcohol.hi r3))), (11, .v (.int .i64 (max 0 (p.alcohol.lo - (min p.alcohol.hi r3))))), (13, .v (.int .i64 (max (p.alcohol.lo - (p.volume - d)) ((d * r5.lo).tdiv 10000))))], ⟨[(1, .blk 29 [.v (.int .i64 p.volume), .v (.int .i64 p.alcohol.lo), .v (.int .i64 p.alcohol.hi)]), (2, .blk 36 [.v (.int .i64 0), .v (.int .i64 0), .v (.int .i64 0)]), (3, .blk 29 [.v (.int .i64 0), .v (.int .i64 0), .v (.int .i64 0)])], (wormtubref04_draw_R c), []⟩⟩) [.rng .i64 (p.alcohol.lo - (p.volume - d)), .call ⟨[], (wormtubref04_draw_R c), []⟩ 50 [.agg [.sl 0, .sl 1], .agg [.v (.int .i64 (min r1.lo r4.lo)), .v (.int .i64 (min r1.lo r4.lo))]] (.agg [.v (.int .i64 r5.lo), .v (.int .i64 r5.hi)]), .rng .i64 (d * r5.lo), .nz 10000, .rng .i64 ((d * r5.lo).tdiv 10000)] S (by kernel_rfl) (by kernel_rfl) (by kernel_rfl) ⟨rngI64 g4, ⟨enters_50, fun E W _ hm => by obtain ⟨A0, c0, q0, l0, s0, _⟩ := Mem.sl hm (s := 0) rfl; obtain ⟨A1, c1, q1, l1, s1, _⟩ := Mem.sl hm (s := 1) rfl; simp only [SV.vals, SV.val, q0, q1]; exact wormtubref04_vapour_ok fuel c (MSpan.mk (min r1.lo r4.lo) (min r1.lo r4.lo)) W A0 c0 l0 s0 A1 c1 l1 s1 r5 e5⟩, rngI64 g5, (by decide : ¬ (10000 : Int) = 0), rngI64 g6, trivial⟩ ?_
  clear S; intro E a w S
  obtain ⟨⟨g7, g8⟩, h⟩ := grd_some h
  obtain ⟨r6, e6, h⟩ := bind_some h
  refine sym_seq lay_ok mixed [(14, { res := .v (.int .i64 r6) })] [2, 6, 7, 9, 10, 11, 13, 14] [2, 3] (⟨[(2, .v (.int .i64 d)), (6, .own 2 0), (7, .own 3 0), (9, .v (.int .i64 (p.volume - d))), (10, .v (.int .i64 (min p.alcohol.hi r3))), (11, .v (.int .i64 (max 0 (p.alcohol.lo - (min p.alcohol.hi r3))))), (13, .v (.int .i64 (max (p.alcohol.lo - (p.volume - d)) ((d * r5.lo).tdiv 10000)))), (14, .v (.int .i64 (min (min (p.alcohol.hi - (max (p.alcohol.lo - (p.volume - d)) ((d * r5.lo).tdiv 10000))) (p.volume - d)) r6)))], ⟨[(2, .blk 36 [.v (.int .i64 0), .v (.int .i64 0), .v (.int .i64 0)]), (3, .blk 29 [.v (.int .i64 0), .v (.int .i64 0), .v (.int .i64 0)])], (wormtubref04_draw_R c), []⟩⟩) [.rng .i64 (p.alcohol.hi - (max (p.alcohol.lo - (p.volume - d)) ((d * r5.lo).tdiv 10000))), .rng .i64 (p.alcohol.hi * (p.volume - d)), .call ⟨[], (wormtubref04_draw_R c), []⟩ 60 [.v (.int .i64 (p.alcohol.hi * (p.volume - d))), .v (.int .i64 p.volume)] (.v (.int .i64 r6))] S (by kernel_rfl) (by kernel_rfl) (by kernel_rfl) ⟨rngI64 g7, rngI64 g8, ⟨enters_60, fun _ W _ _ => wormtubref04_up_ok (p.alcohol.hi * (p.volume - d)) p.volume W r6 e6⟩, trivial⟩ ?_
  clear S; intro E a w S
  refine sym_seq lay_ok mixed [] [6, 7] [2, 3] (⟨[(6, .own 2 0), (7, .own 3 0)], ⟨[(2, .blk 36 [.v (.int .i64 d), .v (.int .i64 (max (p.alcohol.lo - (p.volume - d)) ((d * r5.lo).tdiv 10000))), .v (.int .i64 (min p.alcohol.hi r3))]), (3, .blk 29 [.v (.int .i64 (p.volume - d)), .v (.int .i64 (max 0 (p.alcohol.lo - (min p.alcohol.hi r3)))), .v (.int .i64 (min (min (p.alcohol.hi - (max (p.alcohol.lo - (p.volume - d)) ((d * r5.lo).tdiv 10000))) (p.volume - d)) r6))])], (wormtubref04_draw_R c), []⟩⟩) [] S (by kernel_rfl) (by kernel_rfl) (by kernel_rfl) trivial ?_
  clear S; intro E a w S
  refine wp_ret ?_
  have h := Option.some.inj h
  subst h
  exact sym_ret lay_ok [.agg [.v (.int .i64 d), .v (.int .i64 (max (p.alcohol.lo - (p.volume - d)) ((d * r5.lo).tdiv 10000))), .v (.int .i64 (min p.alcohol.hi r3))], .agg [.v (.int .i64 (p.volume - d)), .v (.int .i64 (max 0 (p.alcohol.lo - (min p.alcohol.hi r3)))), .v (.int .i64 (min (min (p.alcohol.hi - (max (p.alcohol.lo - (p.volume - d)) ((d * r5.lo).tdiv 10000))) (p.volume - d)) r6))]] (by kernel_rfl) rfl S ⟨rfl, S.below rfl⟩
def wormtubref04_Draw_R (c : MCurve) : List (Nat × Q) := [(0, ⟨c.liquid.length, 1, fun i => [.int .i64 (c.liquid.getD i default)]⟩), (1, ⟨c.vapour.length, 2, fun i => [.int .i64 ((c.vapour.getD i default).lo), .int .i64 ((c.vapour.getD i default).hi)]⟩)]
def wormtubref04_Draw (fuel : Nat) (c : MCurve) (p : MPot) (d : Int) : Option (MDrawn × MPot × Int) :=
(wormtubref04_Curve fuel c).bind fun (r1 : Bool) =>
((bif (!(!r1)) then wormtubref04_Pot (MPot.mk p.volume (MSpan.mk p.alcohol.lo p.alcohol.hi)) else some default)).bind fun (r2 : Bool) =>
(bif ((!r1) || (!r2)) then
(some ((MDrawn.mk 0 (MSpan.mk 0 0)), (MPot.mk 0 (MSpan.mk 0 0)), 1))
else
((wormtubref04_in d 1 1073741824).bind fun (r3 : Bool) =>
(bif (!r3) then
(some ((MDrawn.mk 0 (MSpan.mk 0 0)), (MPot.mk 0 (MSpan.mk 0 0)), 2))
else
((bif decide (p.volume < d) then
(some ((MDrawn.mk 0 (MSpan.mk 0 0)), (MPot.mk 0 (MSpan.mk 0 0)), 10))
else
((wormtubref04_draw fuel c (MPot.mk p.volume (MSpan.mk p.alcohol.lo p.alcohol.hi)) d).bind fun (r4 : (MDrawn × MPot)) =>
some ((MDrawn.mk r4.1.amount (MSpan.mk r4.1.alcohol.lo r4.1.alcohol.hi)), (MPot.mk r4.2.volume (MSpan.mk r4.2.alcohol.lo r4.2.alcohol.hi)), 0)))))))
set_option maxRecDepth 100000 in
set_option maxHeartbeats 4000000 in
theorem wormtubref04_Draw_ok (fuel : Nat) (c : MCurve) (p : MPot) (d : Int) (W : World) (A0 : Option Addr) (c0 : Nat) (h0 : c.liquid.length ≤ c0) (s0 : SlAt W A0 c.liquid.length 1 fun i => [.int .i64 (c.liquid.getD i default)]) (A1 : Option Addr) (c1 : Nat) (h1 : c.vapour.length ≤ c1) (s1 : SlAt W A1 c.vapour.length 2 fun i => [.int .i64 ((c.vapour.getD i default).lo), .int .i64 ((c.vapour.getD i default).hi)]) (res : MDrawn × MPot × Int) (h : wormtubref04_Draw fuel c p d = some res) :
    Calls Go.Proofs.Try.prog 21 #[.agg #[.slice A0 c.liquid.length c0, .slice A1 c.vapour.length c1], .agg #[.int .i64 p.volume, .int .i64 p.alcohol.lo, .int .i64 p.alcohol.hi], .int .i64 d] W fun e w' => e = .returned (.tuple #[.agg #[.int .i64 res.1.amount, .int .i64 res.1.alcohol.lo, .int .i64 res.1.alcohol.hi], .agg #[.int .i64 res.2.1.volume, .int .i64 res.2.1.alcohol.lo, .int .i64 res.2.1.alcohol.hi], .int .i64 res.2.2]) ∧ Below W.heap.size W w' := by
  refine sym_call (f := 21) (fn := Go.Proofs.Try.f21) (c := Go.Proofs.Try.f21.body.get rfl) Go.Proofs.Try.func21 rfl [.agg [.sl 0, .sl 1], .agg [.v (.int .i64 p.volume), .v (.int .i64 p.alcohol.lo), .v (.int .i64 p.alcohol.hi)], .v (.int .i64 d)] (wormtubref04_Draw_R c) [] (envOf [(0, ⟨A0, c.liquid.length, c0, 1⟩), (1, ⟨A1, c.vapour.length, c1, 2⟩)]) allR (fun _ _ => rfl) (by kernel_rfl) (envOf_one trivial) ⟨s0.rd h0, s1.rd h1, trivial⟩ (AllRR.all _ _) trivial fun E a w S => ?_
  rw [wormtubref04_Draw] at h
  refine sym_seq lay_ok mixed [(0, { g := 0 }), (1, { g := 1 }), (2, { g := 2 }), (3, { g := 3 })] [2, 3, 4, 6, 7] [0, 1, 2, 3] (⟨[(2, .v (.int .i64 d)), (3, .own 0 0), (4, .own 1 0), (6, .own 2 0), (7, .own 3 0)], ⟨[(0, .blk 25 [.sl 0, .sl 1]), (1, .blk 29 [.v (.int .i64 p.volume), .v (.int .i64 p.alcohol.lo), .v (.int .i64 p.alcohol.hi)]), (2, .blk 36 [.v (.int .i64 0), .v (.int .i64 0), .v (.int .i64 0)]), (3, .blk 29 [.v (.int .i64 0), .v (.int .i64 0), .v (.int .i64 0)])], (wormtubref04_Draw_R c), []⟩⟩) [] S (by kernel_rfl) (by kernel_rfl) (by kernel_rfl) trivial ?_
  clear S; intro E a w S
  refine wp_seq ?_
  obtain ⟨r1, e1, h⟩ := bind_some h
  obtain ⟨r2, e2, h⟩ := bind_some h
  refine sym_seq lay_ok mixed [(1, { res := .v (.bool r1) }), (4, { og := true }), (5, { og := true, res := .v (.bool r2) }), (6, { og := true }), (7, { pk := true })] [2, 3, 4, 6, 7, 18] [0, 1, 2, 3] (⟨[(2, .v (.int .i64 d)), (3, .own 0 0), (4, .own 1 0), (6, .own 2 0), (7, .own 3 0), (18, .v (.bool ((!r1) || (!r2))))], ⟨[(0, .blk 25 [.sl 0, .sl 1]), (1, .blk 29 [.v (.int .i64 p.volume), .v (.int .i64 p.alcohol.lo), .v (.int .i64 p.alcohol.hi)]), (2, .blk 36 [.v (.int .i64 0), .v (.int .i64 0), .v (.int .i64 0)]), (3, .blk 29 [.v (.int .i64 0), .v (.int .i64 0), .v (.int .i64 0)])], (wormtubref04_Draw_R c), []⟩⟩) [.call ⟨[], (wormtubref04_Draw_R c), []⟩ 39 [.agg [.sl 0, .sl 1]] (.v (.bool r1)), .imp (!(!r1)) (!(!r1)), .when (!(!r1)) (.call ⟨[], (wormtubref04_Draw_R c), []⟩ 40 [.agg [.v (.int .i64 p.volume), .v (.int .i64 p.alcohol.lo), .v (.int .i64 p.alcohol.hi)]] (.v (.bool r2))), .imp (!(!r1)) (!(!r1)), .imp (!(!r1)) (!(!r1))] S (by kernel_rfl) (by kernel_rfl) (by kernel_rfl) ⟨⟨enters_39, fun E W _ hm => by obtain ⟨A0, c0, q0, l0, s0, _⟩ := Mem.sl hm (s := 0) rfl; obtain ⟨A1, c1, q1, l1, s1, _⟩ := Mem.sl hm (s := 1) rfl; simp only [SV.vals, SV.val, q0, q1]; exact wormtubref04_Curve_ok fuel c W A0 c0 l0 s0 A1 c1 l1 s1 r1 e1⟩, fun h => h, fun hW => ⟨enters_40, fun _ W _ _ => wormtubref04_Pot_ok (MPot.mk p.volume (MSpan.mk p.alcohol.lo p.alcohol.hi)) W r2 (bif_t hW e2)⟩, fun h => h, fun h => h, trivial⟩ ?_
  clear S; intro E a w S
  refine sym_if_last (b := ((!r1) || (!r2))) S rfl (fun hb1 => ?_) (fun hb1 => ?_)
  · have h := bif_t hb1 h
    refine sym_seq lay_ok mixed [] [6, 7, 8] [2, 3] (⟨[(6, .own 2 0), (7, .own 3 0), (8, .v (.int .i64 1))], ⟨[(2, .blk 36 [.v (.int .i64 0), .v (.int .i64 0), .v (.int .i64 0)]), (3, .blk 29 [.v (.int .i64 0), .v (.int .i64 0), .v (.int .i64 0)])], (wormtubref04_Draw_R c), []⟩⟩) [] S (by kernel_rfl) (by kernel_rfl) (by kernel_rfl) trivial ?_
    clear S; intro E a w S
    refine wp_ret ?_
    refine out_then_ret ?_
    have h := Option.some.inj h
    subst h
    exact sym_ret lay_ok [.agg [.v (.int .i64 0), .v (.int .i64 0), .v (.int .i64 0)], .agg [.v (.int .i64 0), .v (.int .i64 0), .v (.int .i64 0)], .v (.int .i64 1)] (by kernel_rfl) rfl S ⟨rfl, S.below rfl⟩
  · have h := bif_f hb1 h
    refine wp_skip ?_
    refine out_then_normal ?_
    refine wp_seq ?_
    obtain ⟨r3, e3, h⟩ := bind_some h
    refine sym_seq lay_ok mixed [(1, { res := .v (.bool r3) })] [2, 3, 4, 6, 7, 23] [0, 1, 2, 3] (⟨[(2, .v (.int .i64 d)), (3, .own 0 0), (4, .own 1 0), (6, .own 2 0), (7, .own 3 0), (23, .v (.bool (!r3)))], ⟨[(0, .blk 25 [.sl 0, .sl 1]), (1, .blk 29 [.v (.int .i64 p.volume), .v (.int .i64 p.alcohol.lo), .v (.int .i64 p.alcohol.hi)]), (2, .blk 36 [.v (.int .i64 0), .v (.int .i64 0), .v (.int .i64 0)]), (3, .blk 29 [.v (.int .i64 0), .v (.int .i64 0), .v (.int .i64 0)])], (wormtubref04_Draw_R c), []⟩⟩) [.call ⟨[], (wormtubref04_Draw_R c), []⟩ 51 [.v (.int .i64 d), .v (.int .i64 1), .v (.int .i64 1073741824)] (.v (.bool r3))] S (by kernel_rfl) (by kernel_rfl) (by kernel_rfl) ⟨⟨enters_51, fun _ W _ _ => wormtubref04_in_ok d 1 1073741824 W r3 e3⟩, trivial⟩ ?_
    clear S; intro E a w S
    refine sym_if_last (b := (!r3)) S rfl (fun hb2 => ?_) (fun hb2 => ?_)
    · have h := bif_t hb2 h
      refine sym_seq lay_ok mixed [] [6, 7, 8] [2, 3] (⟨[(6, .own 2 0), (7, .own 3 0), (8, .v (.int .i64 2))], ⟨[(2, .blk 36 [.v (.int .i64 0), .v (.int .i64 0), .v (.int .i64 0)]), (3, .blk 29 [.v (.int .i64 0), .v (.int .i64 0), .v (.int .i64 0)])], (wormtubref04_Draw_R c), []⟩⟩) [] S (by kernel_rfl) (by kernel_rfl) (by kernel_rfl) trivial ?_
      clear S; intro E a w S
      refine wp_ret ?_
      refine out_then_ret ?_
      have h := Option.some.inj h
      subst h
      exact sym_ret lay_ok [.agg [.v (.int .i64 0), .v (.int .i64 0), .v (.int .i64 0)], .agg [.v (.int .i64 0), .v (.int .i64 0), .v (.int .i64 0)], .v (.int .i64 2)] (by kernel_rfl) rfl S ⟨rfl, S.below rfl⟩
    · have h := bif_f hb2 h
      refine wp_skip ?_
      refine out_then_normal ?_
      refine wp_seq ?_
      refine sym_seq lay_ok mixed [] [2, 3, 4, 6, 7, 29] [0, 1, 2, 3] (⟨[(2, .v (.int .i64 d)), (3, .own 0 0), (4, .own 1 0), (6, .own 2 0), (7, .own 3 0), (29, .v (.bool (decide (p.volume < d))))], ⟨[(0, .blk 25 [.sl 0, .sl 1]), (1, .blk 29 [.v (.int .i64 p.volume), .v (.int .i64 p.alcohol.lo), .v (.int .i64 p.alcohol.hi)]), (2, .blk 36 [.v (.int .i64 0), .v (.int .i64 0), .v (.int .i64 0)]), (3, .blk 29 [.v (.int .i64 0), .v (.int .i64 0), .v (.int .i64 0)])], (wormtubref04_Draw_R c), []⟩⟩) [] S (by kernel_rfl) (by kernel_rfl) (by kernel_rfl) trivial ?_
      clear S; intro E a w S
      refine sym_if_last (b := decide (p.volume < d)) S rfl (fun hb3 => ?_) (fun hb3 => ?_)
      · have h := bif_t hb3 h
        refine sym_seq lay_ok mixed [] [6, 7, 8] [2, 3] (⟨[(6, .own 2 0), (7, .own 3 0), (8, .v (.int .i64 10))], ⟨[(2, .blk 36 [.v (.int .i64 0), .v (.int .i64 0), .v (.int .i64 0)]), (3, .blk 29 [.v (.int .i64 0), .v (.int .i64 0), .v (.int .i64 0)])], (wormtubref04_Draw_R c), []⟩⟩) [] S (by kernel_rfl) (by kernel_rfl) (by kernel_rfl) trivial ?_
        clear S; intro E a w S
        refine wp_ret ?_
        refine out_then_ret ?_
        have h := Option.some.inj h
        subst h
        exact sym_ret lay_ok [.agg [.v (.int .i64 0), .v (.int .i64 0), .v (.int .i64 0)], .agg [.v (.int .i64 0), .v (.int .i64 0), .v (.int .i64 0)], .v (.int .i64 10)] (by kernel_rfl) rfl S ⟨rfl, S.below rfl⟩
      · have h := bif_f hb3 h
        refine wp_skip ?_
        refine out_then_normal ?_
        obtain ⟨r4, e4, h⟩ := bind_some h
        refine sym_seq lay_ok mixed [(3, { res := .tup [.agg [.v (.int .i64 r4.1.amount), .v (.int .i64 r4.1.alcohol.lo), .v (.int .i64 r4.1.alcohol.hi)], .agg [.v (.int .i64 r4.2.volume), .v (.int .i64 r4.2.alcohol.lo), .v (.int .i64 r4.2.alcohol.hi)]] }), (7, { g := 4 }), (8, { g := 5 })] [6, 7, 9, 10] [2, 3, 4, 5] (⟨[(6, .own 2 0), (7, .own 3 0), (9, .own 4 0), (10, .own 5 0)], ⟨[(2, .blk 36 [.v (.int .i64 0), .v (.int .i64 0), .v (.int .i64 0)]), (3, .blk 29 [.v (.int .i64 0), .v (.int .i64 0), .v (.int .i64 0)]), (4, .blk 36 [.v (.int .i64 r4.1.amount), .v (.int .i64 r4.1.alcohol.lo), .v (.int .i64 r4.1.alcohol.hi)]), (5, .blk 29 [.v (.int .i64 r4.2.volume), .v (.int .i64 r4.2.alcohol.lo), .v (.int .i64 r4.2.alcohol.hi)])], (wormtubref04_Draw_R c), []⟩⟩) [.call ⟨[], (wormtubref04_Draw_R c), []⟩ 52 [.agg [.sl 0, .sl 1], .agg [.v (.int .i64 p.volume), .v (.int .i64 p.alcohol.lo), .v (.int .i64 p.alcohol.hi)], .v (.int .i64 d)] (.tup [.agg [.v (.int .i64 r4.1.amount), .v (.int .i64 r4.1.alcohol.lo), .v (.int .i64 r4.1.alcohol.hi)], .agg [.v (.int .i64 r4.2.volume), .v (.int .i64 r4.2.alcohol.lo), .v (.int .i64 r4.2.alcohol.hi)]])] S (by kernel_rfl) (by kernel_rfl) (by kernel_rfl) ⟨⟨enters_52, fun E W _ hm => by obtain ⟨A0, c0, q0, l0, s0, _⟩ := Mem.sl hm (s := 0) rfl; obtain ⟨A1, c1, q1, l1, s1, _⟩ := Mem.sl hm (s := 1) rfl; simp only [SV.vals, SV.val, q0, q1]; exact wormtubref04_draw_ok fuel c (MPot.mk p.volume (MSpan.mk p.alcohol.lo p.alcohol.hi)) d W A0 c0 l0 s0 A1 c1 l1 s1 r4 e4⟩, trivial⟩ ?_
        clear S; intro E a w S
        refine sym_seq lay_ok mixed [] [6, 7, 8] [2, 3] (⟨[(6, .own 2 0), (7, .own 3 0), (8, .v (.int .i64 0))], ⟨[(2, .blk 36 [.v (.int .i64 r4.1.amount), .v (.int .i64 r4.1.alcohol.lo), .v (.int .i64 r4.1.alcohol.hi)]), (3, .blk 29 [.v (.int .i64 r4.2.volume), .v (.int .i64 r4.2.alcohol.lo), .v (.int .i64 r4.2.alcohol.hi)])], (wormtubref04_Draw_R c), []⟩⟩) [] S (by kernel_rfl) (by kernel_rfl) (by kernel_rfl) trivial ?_
        clear S; intro E a w S
        refine wp_ret ?_
        have h := Option.some.inj h
        subst h
        exact sym_ret lay_ok [.agg [.v (.int .i64 r4.1.amount), .v (.int .i64 r4.1.alcohol.lo), .v (.int .i64 r4.1.alcohol.hi)], .agg [.v (.int .i64 r4.2.volume), .v (.int .i64 r4.2.alcohol.lo), .v (.int .i64 r4.2.alcohol.hi)], .v (.int .i64 0)] (by kernel_rfl) rfl S ⟨rfl, S.below rfl⟩
def wormtubref04_early_R (c : MCurve) (l : List Int) : List (Nat × Q) := [(0, ⟨c.liquid.length, 1, fun i => [.int .i64 (c.liquid.getD i default)]⟩), (1, ⟨c.vapour.length, 2, fun i => [.int .i64 ((c.vapour.getD i default).lo), .int .i64 ((c.vapour.getD i default).hi)]⟩), (2, ⟨l.length, 1, fun i => [.int .i64 (l.getD i default)]⟩)]
def wormtubref04_early (fuel : Nat) (c : MCurve) (p : MPot) (l : List Int) : Option Int :=
(bif decide (64 < ((l.length : Nat) : Int)) then
(some 3)
else
((wormtubref04_Curve fuel c).bind fun (r1 : Bool) =>
((bif (!(!r1)) then wormtubref04_Pot (MPot.mk p.volume (MSpan.mk p.alcohol.lo p.alcohol.hi)) else some default)).bind fun (r2 : Bool) =>
(bif ((!r1) || (!r2)) then
(some 1)
else
(some 0))))
set_option maxRecDepth 100000 in
set_option maxHeartbeats 4000000 in
theorem wormtubref04_early_ok (fuel : Nat) (c : MCurve) (p : MPot) (l : List Int) (W : World) (A0 : Option Addr) (c0 : Nat) (h0 : c.liquid.length ≤ c0) (s0 : SlAt W A0 c.liquid.length 1 fun i => [.int .i64 (c.liquid.getD i default)]) (A1 : Option Addr) (c1 : Nat) (h1 : c.vapour.length ≤ c1) (s1 : SlAt W A1 c.vapour.length 2 fun i => [.int .i64 ((c.vapour.getD i default).lo), .int .i64 ((c.vapour.getD i default).hi)]) (A2 : Option Addr) (c2 : Nat) (h2 : l.length ≤ c2) (s2 : SlAt W A2 l.length 1 fun i => [.int .i64 (l.getD i default)]) (res : Int) (h : wormtubref04_early fuel c p l = some res) :
    Calls Go.Proofs.Try.prog 57 #[.agg #[.slice A0 c.liquid.length c0, .slice A1 c.vapour.length c1], .agg #[.int .i64 p.volume, .int .i64 p.alcohol.lo, .int .i64 p.alcohol.hi], .slice A2 l.length c2] W fun e w' => e = .returned (.int .i64 res) ∧ Below W.heap.size W w' := by
  refine sym_call (f := 57) (fn := Go.Proofs.Try.f57) (c := Go.Proofs.Try.f57.body.get rfl) Go.Proofs.Try.func57 rfl [.agg [.sl 0, .sl 1], .agg [.v (.int .i64 p.volume), .v (.int .i64 p.alcohol.lo), .v (.int .i64 p.alcohol.hi)], .sl 2] (wormtubref04_early_R c l) [] (envOf [(0, ⟨A0, c.liquid.length, c0, 1⟩), (1, ⟨A1, c.vapour.length, c1, 2⟩), (2, ⟨A2, l.length, c2, 1⟩)]) allR (fun _ _ => rfl) (by kernel_rfl) (envOf_one trivial) ⟨s0.rd h0, s1.rd h1, s2.rd h2, trivial⟩ (AllRR.all _ _) trivial fun E a w S => ?_
  rw [wormtubref04_early] at h
  refine sym_seq lay_ok mixed [(0, { g := 0 }), (1, { g := 1 })] [2, 3, 4] [0, 1] (⟨[(2, .sl 2), (3, .own 0 0), (4, .own 1 0)], ⟨[(0, .blk 25 [.sl 0, .sl 1]), (1, .blk 29 [.v (.int .i64 p.volume), .v (.int .i64 p.alcohol.lo), .v (.int .i64 p.alcohol.hi)])], (wormtubref04_early_R c l), []⟩⟩) [] S (by kernel_rfl) (by kernel_rfl) (by kernel_rfl) trivial ?_
  clear S; intro E a w S
  refine wp_seq ?_
  refine sym_seq lay_ok mixed [] [3, 4, 9] [0, 1] (⟨[(3, .own 0 0), (4, .own 1 0), (9, .v (.bool (decide (64 < ((l.length : Nat) : Int)))))], ⟨[(0, .blk 25 [.sl 0, .sl 1]), (1, .blk 29 [.v (.int .i64 p.volume), .v (.int .i64 p.alcohol.lo), .v (.int .i64 p.alcohol.hi)])], (wormtubref04_early_R c l), []⟩⟩) [] S (by kernel_rfl) (by kernel_rfl) (by kernel_rfl) trivial ?_
  clear S; intro E a w S
  refine sym_if_last (b := decide (64 < ((l.length : Nat) : Int))) S rfl (fun hb1 => ?_) (fun hb1 => ?_)
  · have h := bif_t hb1 h
    refine sym_seq lay_ok mixed [] [6] [] (⟨[(6, .v (.int .i64 3))], ⟨[], (wormtubref04_early_R c l), []⟩⟩) [] S (by kernel_rfl) (by kernel_rfl) (by kernel_rfl) trivial ?_
    clear S; intro E a w S
    refine wp_ret ?_
    refine out_then_ret ?_
    have h := Option.some.inj h
    subst h
    exact sym_ret lay_ok [.v (.int .i64 3)] (by kernel_rfl) rfl S ⟨rfl, S.below rfl⟩
  · have h := bif_f hb1 h
    refine wp_skip ?_
    refine out_then_normal ?_
    refine wp_seq ?_
    obtain ⟨r1, e1, h⟩ := bind_some h
    obtain ⟨r2, e2, h⟩ := bind_some h
    refine sym_seq lay_ok mixed [(1, { res := .v (.bool r1) }), (4, { og := true }), (5, { og := true, res := .v (.bool r2) }), (6, { og := true }), (7, { pk := true })] [17] [] (⟨[(17, .v (.bool ((!r1) || (!r2))))], ⟨[], (wormtubref04_early_R c l), []⟩⟩) [.call ⟨[], (wormtubref04_early_R c l), []⟩ 39 [.agg [.sl 0, .sl 1]] (.v (.bool r1)), .imp (!(!r1)) (!(!r1)), .when (!(!r1)) (.call ⟨[], (wormtubref04_early_R c l), []⟩ 40 [.agg [.v (.int .i64 p.volume), .v (.int .i64 p.alcohol.lo), .v (.int .i64 p.alcohol.hi)]] (.v (.bool r2))), .imp (!(!r1)) (!(!r1)), .imp (!(!r1)) (!(!r1))] S (by kernel_rfl) (by kernel_rfl) (by kernel_rfl) ⟨⟨enters_39, fun E W _ hm => by obtain ⟨A0, c0, q0, l0, s0, _⟩ := Mem.sl hm (s := 0) rfl; obtain ⟨A1, c1, q1, l1, s1, _⟩ := Mem.sl hm (s := 1) rfl; simp only [SV.vals, SV.val, q0, q1]; exact wormtubref04_Curve_ok fuel c W A0 c0 l0 s0 A1 c1 l1 s1 r1 e1⟩, fun h => h, fun hW => ⟨enters_40, fun _ W _ _ => wormtubref04_Pot_ok (MPot.mk p.volume (MSpan.mk p.alcohol.lo p.alcohol.hi)) W r2 (bif_t hW e2)⟩, fun h => h, fun h => h, trivial⟩ ?_
    clear S; intro E a w S
    refine sym_if_last (b := ((!r1) || (!r2))) S rfl (fun hb2 => ?_) (fun hb2 => ?_)
    · have h := bif_t hb2 h
      refine sym_seq lay_ok mixed [] [6] [] (⟨[(6, .v (.int .i64 1))], ⟨[], (wormtubref04_early_R c l), []⟩⟩) [] S (by kernel_rfl) (by kernel_rfl) (by kernel_rfl) trivial ?_
      clear S; intro E a w S
      refine wp_ret ?_
      refine out_then_ret ?_
      have h := Option.some.inj h
      subst h
      exact sym_ret lay_ok [.v (.int .i64 1)] (by kernel_rfl) rfl S ⟨rfl, S.below rfl⟩
    · have h := bif_f hb2 h
      refine wp_skip ?_
      refine out_then_normal ?_
      refine sym_seq lay_ok mixed [] [6] [] (⟨[(6, .v (.int .i64 0))], ⟨[], (wormtubref04_early_R c l), []⟩⟩) [] S (by kernel_rfl) (by kernel_rfl) (by kernel_rfl) trivial ?_
      clear S; intro E a w S
      refine wp_ret ?_
      have h := Option.some.inj h
      subst h
      exact sym_ret lay_ok [.v (.int .i64 0)] (by kernel_rfl) rfl S ⟨rfl, S.below rfl⟩
def wormtubref04_SameDrawn_R (a0 : List MDrawn) (b : List MDrawn) : List (Nat × Q) := [(0, ⟨a0.length, 3, fun i => [.int .i64 ((a0.getD i default).amount), .int .i64 (((a0.getD i default).alcohol).lo), .int .i64 (((a0.getD i default).alcohol).hi)]⟩), (1, ⟨b.length, 3, fun i => [.int .i64 ((b.getD i default).amount), .int .i64 (((b.getD i default).alcohol).lo), .int .i64 (((b.getD i default).alcohol).hi)]⟩)]
def wormtubref04_SameDrawn_k1  (x1 : Unit) : Option Bool :=
some true
def wormtubref04_SameDrawn_l1 (a0 : List MDrawn) (b : List MDrawn) : Nat → Int → Option (Lp Unit Bool)
  | 0, _ => none
  | n + 1, b1 =>
    (bif decide (b1 < ((a0.length : Nat) : Int)) then
    (grd (((0 : Int) ≤ b1 ∧ (b1 : Int) < ((a0.length : Nat) : Int)) ∧ ((0 : Int) ≤ b1 ∧ (b1 : Int) < ((b.length : Nat) : Int))) <|
    (bif (!((((a0.getD (Int.toNat b1) default).amount) == ((b.getD (Int.toNat b1) default).amount)) && (((((a0.getD (Int.toNat b1) default).alcohol).lo) == (((b.getD (Int.toNat b1) default).alcohol).lo)) && ((((a0.getD (Int.toNat b1) default).alcohol).hi) == (((b.getD (Int.toNat b1) default).alcohol).hi))))) then
    (some (Lp.ret false))
    else
    (grd (InI64 (b1 + 1)) <|
    wormtubref04_SameDrawn_l1 a0 b n (b1 + 1))))
    else
    (some (Lp.done ())))
def wormtubref04_SameDrawn (fuel : Nat) (a0 : List MDrawn) (b : List MDrawn) : Option Bool :=
(bif (((a0.length : Nat) : Int) != ((b.length : Nat) : Int)) then
(some false)
else
((wormtubref04_SameDrawn_l1 a0 b fuel 0).bind fun lr1 => lr1.go fun x1 => wormtubref04_SameDrawn_k1 x1))
set_option maxRecDepth 100000 in
set_option maxHeartbeats 4000000 in
theorem wormtubref04_SameDrawn_ok (fuel : Nat) (a0 : List MDrawn) (b : List MDrawn) (W : World) (A0 : Option Addr) (c0 : Nat) (h0 : a0.length ≤ c0) (s0 : SlAt W A0 a0.length 3 fun i => [.int .i64 ((a0.getD i default).amount), .int .i64 (((a0.getD i default).alcohol).lo), .int .i64 (((a0.getD i default).alcohol).hi)]) (A1 : Option Addr) (c1 : Nat) (h1 : b.length ≤ c1) (s1 : SlAt W A1 b.length 3 fun i => [.int .i64 ((b.getD i default).amount), .int .i64 (((b.getD i default).alcohol).lo), .int .i64 (((b.getD i default).alcohol).hi)]) (res : Bool) (h : wormtubref04_SameDrawn fuel a0 b = some res) :
    Calls Go.Proofs.Try.prog 26 #[.slice A0 a0.length c0, .slice A1 b.length c1] W fun e w' => e = .returned (.bool res) ∧ Below W.heap.size W w' := by
  refine sym_call (f := 26) (fn := Go.Proofs.Try.f26) (c := Go.Proofs.Try.f26.body.get rfl) Go.Proofs.Try.func26 rfl [.sl 0, .sl 1] (wormtubref04_SameDrawn_R a0 b) [] (envOf [(0, ⟨A0, a0.length, c0, 3⟩), (1, ⟨A1, b.length, c1, 3⟩)]) allR (fun _ _ => rfl) (by kernel_rfl) (envOf_one trivial) ⟨s0.rd h0, s1.rd h1, trivial⟩ (AllRR.all _ _) trivial fun E a w S => ?_
  rw [wormtubref04_SameDrawn] at h
  refine sym_seq lay_ok mixed [] [0, 1] [] (⟨[(0, .sl 0), (1, .sl 1)], ⟨[], (wormtubref04_SameDrawn_R a0 b), []⟩⟩) [] S (by kernel_rfl) (by kernel_rfl) (by kernel_rfl) trivial ?_
  clear S; intro E a w S
  refine wp_seq ?_
  refine sym_seq lay_ok mixed [] [0, 1, 10] [] (⟨[(0, .sl 0), (1, .sl 1), (10, .v (.bool (((a0.length : Nat) : Int) != ((b.length : Nat) : Int))))], ⟨[], (wormtubref04_SameDrawn_R a0 b), []⟩⟩) [] S (by kernel_rfl) (by kernel_rfl) (by kernel_rfl) trivial ?_
  clear S; intro E a w S
  refine sym_if_last (b := (((a0.length : Nat) : Int) != ((b.length : Nat) : Int))) S rfl (fun hb1 => ?_) (fun hb1 => ?_)
  · have h := bif_t hb1 h
    refine sym_seq lay_ok mixed [] [4] [] (⟨[(4, .v (.bool false))], ⟨[], (wormtubref04_SameDrawn_R a0 b), []⟩⟩) [] S (by kernel_rfl) (by kernel_rfl) (by kernel_rfl) trivial ?_
    clear S; intro E a w S
    refine wp_ret ?_
    refine out_then_ret ?_
    have h := Option.some.inj h
    subst h
    exact sym_ret lay_ok [.v (.bool false)] (by kernel_rfl) rfl S ⟨rfl, S.below rfl⟩
  · have h := bif_f hb1 h
    refine wp_skip ?_
    refine out_then_normal ?_
    refine wp_seq ?_
    refine sym_seq lay_ok mixed [] [0, 1, 5] [] (⟨[(0, .sl 0), (1, .sl 1), (5, .v (.int .i64 0))], ⟨[], (wormtubref04_SameDrawn_R a0 b), []⟩⟩) [] S (by kernel_rfl) (by kernel_rfl) (by kernel_rfl) trivial ?_
    clear S; intro E a w S
    obtain ⟨lr1, e1, hp1⟩ := bind_some h
    clear h
    refine sym_block_last (G := fun a w => ∃ E, ∃ x1 : Unit, wormtubref04_SameDrawn_k1 x1 = some res ∧ St ⟨W, noC, Go.Proofs.Try.f26.ntmps, [], allR, noρ, (envOf [(0, ⟨A0, a0.length, c0, 3⟩), (1, ⟨A1, b.length, c1, 3⟩)]).sl, (envOf [(0, ⟨A0, a0.length, c0, 3⟩), (1, ⟨A1, b.length, c1, 3⟩)]).x⟩ (⟨[], ⟨[], (wormtubref04_SameDrawn_R a0 b), []⟩⟩) E a w) ?_ ?_
    · refine wp_loop_rounds fuel ?_
      refine sym_rounds (F := fun n b1 => wormtubref04_SameDrawn_l1 a0 b n b1 = some lr1) (H := fun b1 => ⟨[(0, .sl 0), (1, .sl 1), (5, .v (.int .i64 b1))], ⟨[], (wormtubref04_SameDrawn_R a0 b), []⟩⟩) 0 (fun b hb => by have hb : none = some lr1 := hb; cases hb) ?_ _ _ _ _ e1 (St.cast (P := Go.Proofs.Try.prog) [] [] [0, 1, 5] [] [0, 1] _ [] (by kernel_rfl) trivial S)
      clear e1 S
      intro n b1 E a w h ih S
      rw [wormtubref04_SameDrawn_l1] at h
      refine wp_seq ?_
      refine sym_seq lay_ok mixed [] [0, 1, 5, 14] [] (⟨[(0, .sl 0), (1, .sl 1), (5, .v (.int .i64 b1)), (14, .v (.bool (decide (b1 < ((a0.length : Nat) : Int)))))], ⟨[], (wormtubref04_SameDrawn_R a0 b), []⟩⟩) [] S (by kernel_rfl) (by kernel_rfl) (by kernel_rfl) trivial ?_
      clear S; intro E a w S
      refine sym_if_last (b := decide (b1 < ((a0.length : Nat) : Int))) S rfl (fun hb2 => ?_) (fun hb2 => ?_)
      · have h := bif_t hb2 h
        refine wp_skip ?_
        refine out_then_normal ?_
        refine wp_seq ?_
        refine wp_block ?_
        obtain ⟨⟨g1, g2⟩, h⟩ := grd_some h
        refine sym_seq lay_ok mixed [] [0, 1, 5, 25] [] (⟨[(0, .sl 0), (1, .sl 1), (5, .v (.int .i64 b1)), (25, .v (.bool (!((((a0.getD (Int.toNat b1) default).amount) == ((b.getD (Int.toNat b1) default).amount)) && (((((a0.getD (Int.toNat b1) default).alcohol).lo) == (((b.getD (Int.toNat b1) default).alcohol).lo)) && ((((a0.getD (Int.toNat b1) default).alcohol).hi) == (((b.getD (Int.toNat b1) default).alcohol).hi)))))))], ⟨[], (wormtubref04_SameDrawn_R a0 b), []⟩⟩) [.idx b1 a0.length, .idx b1 a0.length, .idx b1 b.length, .idx b1 b.length] S (by kernel_rfl) (by kernel_rfl) (by kernel_rfl) ⟨g1, g1, g2, g2, trivial⟩ ?_
        clear S; intro E a w S
        refine sym_if_last (b := (!((((a0.getD (Int.toNat b1) default).amount) == ((b.getD (Int.toNat b1) default).amount)) && (((((a0.getD (Int.toNat b1) default).alcohol).lo) == (((b.getD (Int.toNat b1) default).alcohol).lo)) && ((((a0.getD (Int.toNat b1) default).alcohol).hi) == (((b.getD (Int.toNat b1) default).alcohol).hi)))))) S rfl (fun hb3 => ?_) (fun hb3 => ?_)
        · have h := bif_t hb3 h
          refine sym_seq lay_ok mixed [] [4] [] (⟨[(4, .v (.bool false))], ⟨[], (wormtubref04_SameDrawn_R a0 b), []⟩⟩) [] S (by kernel_rfl) (by kernel_rfl) (by kernel_rfl) trivial ?_
          clear S; intro E a w S
          refine wp_ret ?_
          refine out_block_ret ?_
          refine out_then_ret ?_
          refine out_then_ret ?_
          refine out_block_ret ?_
          refine out_then_ret ?_
          refine out_then_ret ?_
          have hr := Option.some.inj h
          subst hr
          have hr := Option.some.inj hp1
          subst hr
          exact sym_ret lay_ok [.v (.bool false)] (by kernel_rfl) rfl S ⟨rfl, S.below rfl⟩
        · have h := bif_f hb3 h
          refine wp_skip ?_
          refine out_block_normal ?_
          refine out_then_normal ?_
          obtain ⟨g3, h⟩ := grd_some h
          refine sym_last lay_ok mixed [] [0, 1, 5] [] (⟨[(0, .sl 0), (1, .sl 1), (5, .v (.int .i64 (b1 + 1)))], ⟨[], (wormtubref04_SameDrawn_R a0 b), []⟩⟩) [.rng .i64 (b1 + 1)] S (by kernel_rfl) (by kernel_rfl) (by kernel_rfl) ⟨rngI64 g3, trivial⟩ ?_
          clear S; intro E a w S
          refine out_then_normal ?_
          exact ih (b1 + 1) _ _ _ h (St.cast (P := Go.Proofs.Try.prog) [] [] [0, 1, 5] [] [0, 1] _ [] (by kernel_rfl) trivial S)
      · have h := bif_f hb2 h
        refine wp_exit ?_
        refine out_then_exit ?_
        refine out_then_exit ?_
        refine out_block_here ?_
        refine out_then_normal ?_
        have hr := Option.some.inj h
        subst hr
        exact ⟨_, (), hp1, St.cast (P := Go.Proofs.Try.prog) [] [] [] [] [0, 1] _ [] (by kernel_rfl) trivial S⟩
    clear e1 S
    rintro a w ⟨E, x1, h, S⟩
    rw [wormtubref04_SameDrawn_k1] at h
    refine out_then_normal ?_
    refine sym_seq lay_ok mixed [] [4] [] (⟨[(4, .v (.bool true))], ⟨[], (wormtubref04_SameDrawn_R a0 b), []⟩⟩) [] S (by kernel_rfl) (by kernel_rfl) (by kernel_rfl) trivial ?_
    clear S; intro E a w S
    refine wp_ret ?_
    have h := Option.some.inj h
    subst h
    exact sym_ret lay_ok [.v (.bool true)] (by kernel_rfl) rfl S ⟨rfl, S.below rfl⟩
def wormtubref04_Ints_R (a0 : List Int) (b : List Int) : List (Nat × Q) := [(0, ⟨a0.length, 1, fun i => [.int .i64 (a0.getD i default)]⟩), (1, ⟨b.length, 1, fun i => [.int .i64 (b.getD i default)]⟩)]
def wormtubref04_Ints_k1  (x1 : Unit) : Option Bool :=
some true
def wormtubref04_Ints_l1 (a0 : List Int) (b : List Int) : Nat → Int → Option (Lp Unit Bool)
  | 0, _ => none
  | n + 1, b1 =>
    (bif decide (b1 < ((a0.length : Nat) : Int)) then
    (grd (((0 : Int) ≤ b1 ∧ (b1 : Int) < ((a0.length : Nat) : Int)) ∧ ((0 : Int) ≤ b1 ∧ (b1 : Int) < ((b.length : Nat) : Int))) <|
    (bif ((a0.getD (Int.toNat b1) default) != (b.getD (Int.toNat b1) default)) then
    (some (Lp.ret false))
    else
    (grd (InI64 (b1 + 1)) <|
    wormtubref04_Ints_l1 a0 b n (b1 + 1))))
    else
    (some (Lp.done ())))
def wormtubref04_Ints (fuel : Nat) (a0 : List Int) (b : List Int) : Option Bool :=
(bif (((a0.length : Nat) : Int) != ((b.length : Nat) : Int)) then
(some false)
else
((wormtubref04_Ints_l1 a0 b fuel 0).bind fun lr1 => lr1.go fun x1 => wormtubref04_Ints_k1 x1))
set_option maxRecDepth 100000 in
set_option maxHeartbeats 4000000 in
theorem wormtubref04_Ints_ok (fuel : Nat) (a0 : List Int) (b : List Int) (W : World) (A0 : Option Addr) (c0 : Nat) (h0 : a0.length ≤ c0) (s0 : SlAt W A0 a0.length 1 fun i => [.int .i64 (a0.getD i default)]) (A1 : Option Addr) (c1 : Nat) (h1 : b.length ≤ c1) (s1 : SlAt W A1 b.length 1 fun i => [.int .i64 (b.getD i default)]) (res : Bool) (h : wormtubref04_Ints fuel a0 b = some res) :
    Calls Go.Proofs.Try.prog 31 #[.slice A0 a0.length c0, .slice A1 b.length c1] W fun e w' => e = .returned (.bool res) ∧ Below W.heap.size W w' := by
  refine sym_call (f := 31) (fn := Go.Proofs.Try.f31) (c := Go.Proofs.Try.f31.body.get rfl) Go.Proofs.Try.func31 rfl [.sl 0, .sl 1] (wormtubref04_Ints_R a0 b) [] (envOf [(0, ⟨A0, a0.length, c0, 1⟩), (1, ⟨A1, b.length, c1, 1⟩)]) allR (fun _ _ => rfl) (by kernel_rfl) (envOf_one trivial) ⟨s0.rd h0, s1.rd h1, trivial⟩ (AllRR.all _ _) trivial fun E a w S => ?_
  rw [wormtubref04_Ints] at h
  refine sym_seq lay_ok mixed [] [0, 1] [] (⟨[(0, .sl 0), (1, .sl 1)], ⟨[], (wormtubref04_Ints_R a0 b), []⟩⟩) [] S (by kernel_rfl) (by kernel_rfl) (by kernel_rfl) trivial ?_
  clear S; intro E a w S
  refine wp_seq ?_
  refine sym_seq lay_ok mixed [] [0, 1, 10] [] (⟨[(0, .sl 0), (1, .sl 1), (10, .v (.bool (((a0.length : Nat) : Int) != ((b.length : Nat) : Int))))], ⟨[], (wormtubref04_Ints_R a0 b), []⟩⟩) [] S (by kernel_rfl) (by kernel_rfl) (by kernel_rfl) trivial ?_
  clear S; intro E a w S
  refine sym_if_last (b := (((a0.length : Nat) : Int) != ((b.length : Nat) : Int))) S rfl (fun hb1 => ?_) (fun hb1 => ?_)
  · have h := bif_t hb1 h
    refine sym_seq lay_ok mixed [] [4] [] (⟨[(4, .v (.bool false))], ⟨[], (wormtubref04_Ints_R a0 b), []⟩⟩) [] S (by kernel_rfl) (by kernel_rfl) (by kernel_rfl) trivial ?_
    clear S; intro E a w S
    refine wp_ret ?_
    refine out_then_ret ?_
    have h := Option.some.inj h
    subst h
    exact sym_ret lay_ok [.v (.bool false)] (by kernel_rfl) rfl S ⟨rfl, S.below rfl⟩
  · have h := bif_f hb1 h
    refine wp_skip ?_
    refine out_then_normal ?_
    refine wp_seq ?_
    refine sym_seq lay_ok mixed [] [0, 1, 5] [] (⟨[(0, .sl 0), (1, .sl 1), (5, .v (.int .i64 0))], ⟨[], (wormtubref04_Ints_R a0 b), []⟩⟩) [] S (by kernel_rfl) (by kernel_rfl) (by kernel_rfl) trivial ?_
    clear S; intro E a w S
    obtain ⟨lr1, e1, hp1⟩ := bind_some h
    clear h
    refine sym_block_last (G := fun a w => ∃ E, ∃ x1 : Unit, wormtubref04_Ints_k1 x1 = some res ∧ St ⟨W, noC, Go.Proofs.Try.f31.ntmps, [], allR, noρ, (envOf [(0, ⟨A0, a0.length, c0, 1⟩), (1, ⟨A1, b.length, c1, 1⟩)]).sl, (envOf [(0, ⟨A0, a0.length, c0, 1⟩), (1, ⟨A1, b.length, c1, 1⟩)]).x⟩ (⟨[], ⟨[], (wormtubref04_Ints_R a0 b), []⟩⟩) E a w) ?_ ?_
    · refine wp_loop_rounds fuel ?_
      refine sym_rounds (F := fun n b1 => wormtubref04_Ints_l1 a0 b n b1 = some lr1) (H := fun b1 => ⟨[(0, .sl 0), (1, .sl 1), (5, .v (.int .i64 b1))], ⟨[], (wormtubref04_Ints_R a0 b), []⟩⟩) 0 (fun b hb => by have hb : none = some lr1 := hb; cases hb) ?_ _ _ _ _ e1 (St.cast (P := Go.Proofs.Try.prog) [] [] [0, 1, 5] [] [0, 1] _ [] (by kernel_rfl) trivial S)
      clear e1 S
      intro n b1 E a w h ih S
      rw [wormtubref04_Ints_l1] at h
      refine wp_seq ?_
      refine sym_seq lay_ok mixed [] [0, 1, 5, 14] [] (⟨[(0, .sl 0), (1, .sl 1), (5, .v (.int .i64 b1)), (14, .v (.bool (decide (b1 < ((a0.length : Nat) : Int)))))], ⟨[], (wormtubref04_Ints_R a0 b), []⟩⟩) [] S (by kernel_rfl) (by kernel_rfl) (by kernel_rfl) trivial ?_
      clear S; intro E a w S
      refine sym_if_last (b := decide (b1 < ((a0.length : Nat) : Int))) S rfl (fun hb2 => ?_) (fun hb2 => ?_)
      · have h := bif_t hb2 h
        refine wp_skip ?_
        refine out_then_normal ?_
        refine wp_seq ?_
        refine wp_block ?_
        obtain ⟨⟨g1, g2⟩, h⟩ := grd_some h
        refine sym_seq lay_ok mixed [] [0, 1, 5, 25] [] (⟨[(0, .sl 0), (1, .sl 1), (5, .v (.int .i64 b1)), (25, .v (.bool ((a0.getD (Int.toNat b1) default) != (b.getD (Int.toNat b1) default))))], ⟨[], (wormtubref04_Ints_R a0 b), []⟩⟩) [.idx b1 a0.length, .idx b1 a0.length, .idx b1 b.length, .idx b1 b.length] S (by kernel_rfl) (by kernel_rfl) (by kernel_rfl) ⟨g1, g1, g2, g2, trivial⟩ ?_
        clear S; intro E a w S
        refine sym_if_last (b := ((a0.getD (Int.toNat b1) default) != (b.getD (Int.toNat b1) default))) S rfl (fun hb3 => ?_) (fun hb3 => ?_)
        · have h := bif_t hb3 h
          refine sym_seq lay_ok mixed [] [4] [] (⟨[(4, .v (.bool false))], ⟨[], (wormtubref04_Ints_R a0 b), []⟩⟩) [] S (by kernel_rfl) (by kernel_rfl) (by kernel_rfl) trivial ?_
          clear S; intro E a w S
          refine wp_ret ?_
          refine out_block_ret ?_
          refine out_then_ret ?_
          refine out_then_ret ?_
          refine out_block_ret ?_
          refine out_then_ret ?_
          refine out_then_ret ?_
          have hr := Option.some.inj h
          subst hr
          have hr := Option.some.inj hp1
          subst hr
          exact sym_ret lay_ok [.v (.bool false)] (by kernel_rfl) rfl S ⟨rfl, S.below rfl⟩
        · have h := bif_f hb3 h
          refine wp_skip ?_
          refine out_block_normal ?_
          refine out_then_normal ?_
          obtain ⟨g3, h⟩ := grd_some h
          refine sym_last lay_ok mixed [] [0, 1, 5] [] (⟨[(0, .sl 0), (1, .sl 1), (5, .v (.int .i64 (b1 + 1)))], ⟨[], (wormtubref04_Ints_R a0 b), []⟩⟩) [.rng .i64 (b1 + 1)] S (by kernel_rfl) (by kernel_rfl) (by kernel_rfl) ⟨rngI64 g3, trivial⟩ ?_
          clear S; intro E a w S
          refine out_then_normal ?_
          exact ih (b1 + 1) _ _ _ h (St.cast (P := Go.Proofs.Try.prog) [] [] [0, 1, 5] [] [0, 1] _ [] (by kernel_rfl) trivial S)
      · have h := bif_f hb2 h
        refine wp_exit ?_
        refine out_then_exit ?_
        refine out_then_exit ?_
        refine out_block_here ?_
        refine out_then_normal ?_
        have hr := Option.some.inj h
        subst hr
        exact ⟨_, (), hp1, St.cast (P := Go.Proofs.Try.prog) [] [] [] [] [0, 1] _ [] (by kernel_rfl) trivial S⟩
    clear e1 S
    rintro a w ⟨E, x1, h, S⟩
    rw [wormtubref04_Ints_k1] at h
    refine out_then_normal ?_
    refine sym_seq lay_ok mixed [] [4] [] (⟨[(4, .v (.bool true))], ⟨[], (wormtubref04_Ints_R a0 b), []⟩⟩) [] S (by kernel_rfl) (by kernel_rfl) (by kernel_rfl) trivial ?_
    clear S; intro E a w S
    refine wp_ret ?_
    have h := Option.some.inj h
    subst h
    exact sym_ret lay_ok [.v (.bool true)] (by kernel_rfl) rfl S ⟨rfl, S.below rfl⟩
def still_kinds_with (k : Int) (kind : Int) (can : Bool) : Option Int :=
(bif can then
(some (bits .or .i64 k kind))
else
(some k))
set_option maxRecDepth 100000 in
set_option maxHeartbeats 4000000 in
theorem still_kinds_with_ok (k : Int) (kind : Int) (can : Bool) (W : World)  (res : Int) (h : still_kinds_with k kind can = some res) :
    Calls Go.Proofs.Try.prog 73 #[.int .i64 k, .int .i64 kind, .bool can] W fun e w' => e = .returned (.int .i64 res) ∧ Below W.heap.size W w' := by
  refine sym_call (f := 73) (fn := Go.Proofs.Try.f73) (c := Go.Proofs.Try.f73.body.get rfl) Go.Proofs.Try.func73 rfl [.v (.int .i64 k), .v (.int .i64 kind), .v (.bool can)] [] [] (envOf []) allR (fun _ _ => rfl) (by kernel_rfl) (envOf_one trivial) trivial (AllRR.all _ _) trivial fun E a w S => ?_
  rw [still_kinds_with] at h
  refine sym_seq lay_ok mixed [] [0, 1, 2] [] (⟨[(0, .v (.int .i64 k)), (1, .v (.int .i64 kind)), (2, .v (.bool can))], ⟨[], [], []⟩⟩) [] S (by kernel_rfl) (by kernel_rfl) (by kernel_rfl) trivial ?_
  clear S; intro E a w S
  refine wp_seq ?_
  refine sym_seq lay_ok mixed [] [0, 1, 7] [] (⟨[(0, .v (.int .i64 k)), (1, .v (.int .i64 kind)), (7, .v (.bool can))], ⟨[], [], []⟩⟩) [] S (by kernel_rfl) (by kernel_rfl) (by kernel_rfl) trivial ?_
  clear S; intro E a w S
  refine sym_if_last (b := can) S rfl (fun hb1 => ?_) (fun hb1 => ?_)
  · have h := bif_t hb1 h
    refine sym_seq lay_ok mixed [] [6] [] (⟨[(6, .v (.int .i64 (bits .or .i64 k kind)))], ⟨[], [], []⟩⟩) [] S (by kernel_rfl) (by kernel_rfl) (by kernel_rfl) trivial ?_
    clear S; intro E a w S
    refine wp_ret ?_
    refine out_then_ret ?_
    have h := Option.some.inj h
    subst h
    exact sym_ret lay_ok [.v (.int .i64 (bits .or .i64 k kind))] (by kernel_rfl) rfl S ⟨rfl, S.below rfl⟩
  · have h := bif_f hb1 h
    refine wp_skip ?_
    refine out_then_normal ?_
    refine sym_seq lay_ok mixed [] [6] [] (⟨[(6, .v (.int .i64 k))], ⟨[], [], []⟩⟩) [] S (by kernel_rfl) (by kernel_rfl) (by kernel_rfl) trivial ?_
    clear S; intro E a w S
    refine wp_ret ?_
    have h := Option.some.inj h
    subst h
    exact sym_ret lay_ok [.v (.int .i64 k)] (by kernel_rfl) rfl S ⟨rfl, S.below rfl⟩
def still_kindsOf (strong : MSpan) (cut : Int) (end' : Int) : Option Int :=
(still_kinds_with 0 2 (decide (cut ≤ strong.hi))).bind fun (r1 : Int) =>
(still_kinds_with r1 4 (decide (strong.lo < cut) && decide (end' ≤ strong.hi))).bind fun (r2 : Int) =>
(still_kinds_with r2 8 (decide (strong.lo < end'))).bind fun (r3 : Int) =>
some r3
set_option maxRecDepth 100000 in
set_option maxHeartbeats 4000000 in
theorem still_kindsOf_ok (strong : MSpan) (cut : Int) (end' : Int) (W : World)  (res : Int) (h : still_kindsOf strong cut end' = some res) :
    Calls Go.Proofs.Try.prog 55 #[.agg #[.int .i64 strong.lo, .int .i64 strong.hi], .int .i64 cut, .int .i64 end'] W fun e w' => e = .returned (.int .i64 res) ∧ Below W.heap.size W w' := by
  refine sym_call (f := 55) (fn := Go.Proofs.Try.f55) (c := Go.Proofs.Try.f55.body.get rfl) Go.Proofs.Try.func55 rfl [.agg [.v (.int .i64 strong.lo), .v (.int .i64 strong.hi)], .v (.int .i64 cut), .v (.int .i64 end')] [] [] (envOf []) allR (fun _ _ => rfl) (by kernel_rfl) (envOf_one trivial) trivial (AllRR.all _ _) trivial fun E a w S => ?_
  rw [still_kindsOf] at h
  refine sym_seq lay_ok mixed [(0, { g := 0 })] [1, 2, 3] [0] (⟨[(1, .v (.int .i64 cut)), (2, .v (.int .i64 end')), (3, .own 0 0)], ⟨[(0, .blk 75 [.v (.int .i64 strong.lo), .v (.int .i64 strong.hi)])], [], []⟩⟩) [] S (by kernel_rfl) (by kernel_rfl) (by kernel_rfl) trivial ?_
  clear S; intro E a w S
  obtain ⟨r1, e1, h⟩ := bind_some h
  obtain ⟨r2, e2, h⟩ := bind_some h
  obtain ⟨r3, e3, h⟩ := bind_some h
  refine sym_seq lay_ok mixed [(4, { res := .v (.int .i64 r1) }), (10, { og := true }), (11, { og := true }), (12, { og := true }), (13, { og := true }), (14, { pk := true }), (15, { res := .v (.int .i64 r2) }), (20, { res := .v (.int .i64 r3) })] [6] [] (⟨[(6, .v (.int .i64 r3))], ⟨[], [], []⟩⟩) [.call ⟨[], [], []⟩ 73 [.v (.int .i64 0), .v (.int .i64 2), .v (.bool (decide (cut ≤ strong.hi)))] (.v (.int .i64 r1)), .imp (decide (strong.lo < cut)) (decide (strong.lo < cut)), .imp (decide (strong.lo < cut)) (decide (strong.lo < cut)), .imp (decide (strong.lo < cut)) (decide (strong.lo < cut)), .imp (decide (strong.lo < cut)) (decide (strong.lo < cut)), .call ⟨[], [], []⟩ 73 [.v (.int .i64 r1), .v (.int .i64 4), .v (.bool (decide (strong.lo < cut) && decide (end' ≤ strong.hi)))] (.v (.int .i64 r2)), .call ⟨[], [], []⟩ 73 [.v (.int .i64 r2), .v (.int .i64 8), .v (.bool (decide (strong.lo < end')))] (.v (.int .i64 r3))] S (by kernel_rfl) (by kernel_rfl) (by kernel_rfl) ⟨⟨enters_73, fun _ W _ _ => still_kinds_with_ok 0 2 (decide (cut ≤ strong.hi)) W r1 e1⟩, fun h => h, fun h => h, fun h => h, fun h => h, ⟨enters_73, fun _ W _ _ => still_kinds_with_ok r1 4 (decide (strong.lo < cut) && decide (end' ≤ strong.hi)) W r2 e2⟩, ⟨enters_73, fun _ W _ _ => still_kinds_with_ok r2 8 (decide (strong.lo < end')) W r3 e3⟩, trivial⟩ ?_
  clear S; intro E a w S
  refine wp_ret ?_
  have h := Option.some.inj h
  subst h
  exact sym_ret lay_ok [.v (.int .i64 r3)] (by kernel_rfl) rfl S ⟨rfl, S.below rfl⟩
def still_Check_R (c : MCurve) : List (Nat × Q) := [(0, ⟨c.liquid.length, 1, fun i => [.int .i64 (c.liquid.getD i default)]⟩), (1, ⟨c.vapour.length, 2, fun i => [.int .i64 ((c.vapour.getD i default).lo), .int .i64 ((c.vapour.getD i default).hi)]⟩)]
def still_Check (fuel : Nat) (c : MCurve) : Option Int :=
(still_validCurve fuel c).bind fun (r1 : Bool) =>
(bif (!r1) then
(some 1)
else
(some 0))
set_option maxRecDepth 100000 in
set_option maxHeartbeats 4000000 in
theorem still_Check_ok (fuel : Nat) (c : MCurve) (W : World) (A0 : Option Addr) (c0 : Nat) (h0 : c.liquid.length ≤ c0) (s0 : SlAt W A0 c.liquid.length 1 fun i => [.int .i64 (c.liquid.getD i default)]) (A1 : Option Addr) (c1 : Nat) (h1 : c.vapour.length ≤ c1) (s1 : SlAt W A1 c.vapour.length 2 fun i => [.int .i64 ((c.vapour.getD i default).lo), .int .i64 ((c.vapour.getD i default).hi)]) (res : Int) (h : still_Check fuel c = some res) :
    Calls Go.Proofs.Try.prog 24 #[.agg #[.slice A0 c.liquid.length c0, .slice A1 c.vapour.length c1]] W fun e w' => e = .returned (.int .i64 res) ∧ Below W.heap.size W w' := by
  refine sym_call (f := 24) (fn := Go.Proofs.Try.f24) (c := Go.Proofs.Try.f24.body.get rfl) Go.Proofs.Try.func24 rfl [.agg [.sl 0, .sl 1]] (still_Check_R c) [] (envOf [(0, ⟨A0, c.liquid.length, c0, 1⟩), (1, ⟨A1, c.vapour.length, c1, 2⟩)]) allR (fun _ _ => rfl) (by kernel_rfl) (envOf_one trivial) ⟨s0.rd h0, s1.rd h1, trivial⟩ (AllRR.all _ _) trivial fun E a w S => ?_
  rw [still_Check] at h
  refine sym_seq lay_ok mixed [(0, { g := 0 })] [1] [0] (⟨[(1, .own 0 0)], ⟨[(0, .blk 25 [.sl 0, .sl 1])], (still_Check_R c), []⟩⟩) [] S (by kernel_rfl) (by kernel_rfl) (by kernel_rfl) trivial ?_
  clear S; intro E a w S
  refine wp_seq ?_
  obtain ⟨r1, e1, h⟩ := bind_some h
  refine sym_seq lay_ok mixed [(1, { res := .v (.bool r1) })] [5] [] (⟨[(5, .v (.bool (!r1)))], ⟨[], (still_Check_R c), []⟩⟩) [.call ⟨[], (still_Check_R c), []⟩ 44 [.agg [.sl 0, .sl 1]] (.v (.bool r1))] S (by kernel_rfl) (by kernel_rfl) (by kernel_rfl) ⟨⟨enters_44, fun E W _ hm => by obtain ⟨A0, c0, q0, l0, s0, _⟩ := Mem.sl hm (s := 0) rfl; obtain ⟨A1, c1, q1, l1, s1, _⟩ := Mem.sl hm (s := 1) rfl; simp only [SV.vals, SV.val, q0, q1]; exact still_validCurve_ok fuel c W A0 c0 l0 s0 A1 c1 l1 s1 r1 e1⟩, trivial⟩ ?_
  clear S; intro E a w S
  refine sym_if_last (b := (!r1)) S rfl (fun hb1 => ?_) (fun hb1 => ?_)
  · have h := bif_t hb1 h
    refine sym_seq lay_ok mixed [] [2] [] (⟨[(2, .v (.int .i64 1))], ⟨[], (still_Check_R c), []⟩⟩) [] S (by kernel_rfl) (by kernel_rfl) (by kernel_rfl) trivial ?_
    clear S; intro E a w S
    refine wp_ret ?_
    refine out_then_ret ?_
    have h := Option.some.inj h
    subst h
    exact sym_ret lay_ok [.v (.int .i64 1)] (by kernel_rfl) rfl S ⟨rfl, S.below rfl⟩
  · have h := bif_f hb1 h
    refine wp_skip ?_
    refine out_then_normal ?_
    refine sym_seq lay_ok mixed [] [2] [] (⟨[(2, .v (.int .i64 0))], ⟨[], (still_Check_R c), []⟩⟩) [] S (by kernel_rfl) (by kernel_rfl) (by kernel_rfl) trivial ?_
    clear S; intro E a w S
    refine wp_ret ?_
    have h := Option.some.inj h
    subst h
    exact sym_ret lay_ok [.v (.int .i64 0)] (by kernel_rfl) rfl S ⟨rfl, S.below rfl⟩
def wormtublaw04_inner (s : MSpan) (by' : Int) : Option Int :=
grd (InI64 by' ∧ InI64 (s.hi - s.lo) ∧ InI64 ((s.hi - s.lo) + 1) ∧ ¬ ((s.hi - s.lo) + 1) = 0 ∧ InI64 (s.lo + (by'.tmod ((s.hi - s.lo) + 1)))) <|
some (s.lo + (by'.tmod ((s.hi - s.lo) + 1)))
set_option maxRecDepth 100000 in
set_option maxHeartbeats 4000000 in
theorem wormtublaw04_inner_ok (s : MSpan) (by' : Int) (W : World)  (res : Int) (h : wormtublaw04_inner s by' = some res) :
    Calls Go.Proofs.Try.prog 41 #[.agg #[.int .i64 s.lo, .int .i64 s.hi], .int .u32 by'] W fun e w' => e = .returned (.int .i64 res) ∧ Below W.heap.size W w' := by
  refine sym_call (f := 41) (fn := Go.Proofs.Try.f41) (c := Go.Proofs.Try.f41.body.get rfl) Go.Proofs.Try.func41 rfl [.agg [.v (.int .i64 s.lo), .v (.int .i64 s.hi)], .v (.int .u32 by')] [] [] (envOf []) allR (fun _ _ => rfl) (by kernel_rfl) (envOf_one trivial) trivial (AllRR.all _ _) trivial fun E a w S => ?_
  rw [wormtublaw04_inner] at h
  refine sym_seq lay_ok mixed [(0, { g := 0 })] [1, 2] [0] (⟨[(1, .v (.int .u32 by')), (2, .own 0 0)], ⟨[(0, .blk 27 [.v (.int .i64 s.lo), .v (.int .i64 s.hi)])], [], []⟩⟩) [] S (by kernel_rfl) (by kernel_rfl) (by kernel_rfl) trivial ?_
  clear S; intro E a w S
  obtain ⟨⟨g1, g2, g3, g4, g5⟩, h⟩ := grd_some h
  refine sym_seq lay_ok mixed [] [4] [] (⟨[(4, .v (.int .i64 (s.lo + (by'.tmod ((s.hi - s.lo) + 1)))))], ⟨[], [], []⟩⟩) [.rng .i64 by', .rng .i64 (s.hi - s.lo), .rng .i64 ((s.hi - s.lo) + 1), .nz ((s.hi - s.lo) + 1), .rng .i64 (s.lo + (by'.tmod ((s.hi - s.lo) + 1)))] S (by kernel_rfl) (by kernel_rfl) (by kernel_rfl) ⟨rngI64 g1, rngI64 g2, rngI64 g3, g4, rngI64 g5, trivial⟩ ?_
  clear S; intro E a w S
  refine wp_ret ?_
  have h := Option.some.inj h
  subst h
  exact sym_ret lay_ok [.v (.int .i64 (s.lo + (by'.tmod ((s.hi - s.lo) + 1))))] (by kernel_rfl) rfl S ⟨rfl, S.below rfl⟩
end Go.Proofs.Ytnfahoomoelmcaa
