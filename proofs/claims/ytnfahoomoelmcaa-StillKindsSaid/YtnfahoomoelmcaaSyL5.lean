/- Models and walks, printed by program. -/
import Derived.Test.YtnfahoomoelmcaaSyF3
namespace Go.Proofs.Ytnfahoomoelmcaa
open Go.RowKit Go.Proofs.Try

def wormtublaw04_StillKinds_R (c : MCurve) (amounts : List Int) : List (Nat × Q) := [(0, ⟨c.liquid.length, 1, fun i => [.int .i64 (c.liquid.getD i default)]⟩), (1, ⟨c.vapour.length, 2, fun i => [.int .i64 ((c.vapour.getD i default).lo), .int .i64 ((c.vapour.getD i default).hi)]⟩), (2, ⟨amounts.length, 1, fun i => [.int .i64 (amounts.getD i default)]⟩)]
def wormtublaw04_StillKinds_k1 (fuel : Nat) (x1 : Unit) : Option Bool :=
(wormtublaw04_alive fuel).bind fun (r7 : Bool) =>
some r7
def wormtublaw04_StillKinds_l1 (fore : Int) (cut : Int) (end' : Int) (by' : Int) (r3 : (List Int × Int)) (r5 : (List MDrawn × MPot × Int)) : Nat → (Int × Int) → Option (Lp Unit Bool)
  | 0, _ => none
  | n + 1, b1 =>
    (bif decide (b1.2 < ((r5.1.length : Nat) : Int)) then
    (grd (((0 : Int) ≤ b1.2 ∧ (b1.2 : Int) < ((r5.1.length : Nat) : Int))) <|
    grd (InI64 (b1.1 + ((r5.1.getD (Int.toNat b1.2) default).amount))) <|
    grd (((0 : Int) ≤ b1.2 ∧ (b1.2 : Int) < ((r3.1.length : Nat) : Int))) <|
    (bif (!(((r3.1.getD (Int.toNat b1.2) default) == 1) == (decide ((b1.1 + ((r5.1.getD (Int.toNat b1.2) default).amount)) ≤ fore)))) then
    (some (Lp.ret false))
    else
    ((bif decide ((b1.1 + ((r5.1.getD (Int.toNat b1.2) default).amount)) ≤ fore) then
    (grd (InI64 (b1.2 + 1)) <|
    wormtublaw04_StillKinds_l1 fore cut end' by' r3 r5 n ((b1.1 + ((r5.1.getD (Int.toNat b1.2) default).amount)), (b1.2 + 1)))
    else
    ((wormtublaw04_inner (MSpan.mk (((r5.1.getD (Int.toNat b1.2) default).alcohol).lo) (((r5.1.getD (Int.toNat b1.2) default).alcohol).hi)) by').bind fun (r6 : Int) =>
    grd (InI64 (r6 * 10000)) <|
    grd (InI64 (cut * ((r5.1.getD (Int.toNat b1.2) default).amount))) <|
    (bif decide ((cut * ((r5.1.getD (Int.toNat b1.2) default).amount)) ≤ (r6 * 10000)) then
    (some 2)
    else
    (grd (InI64 (end' * ((r5.1.getD (Int.toNat b1.2) default).amount))) <|
    (bif decide ((end' * ((r5.1.getD (Int.toNat b1.2) default).amount)) ≤ (r6 * 10000)) then
    (some 4)
    else
    (some 8)))).bind fun (j1 : Int) =>
    grd (((!((bits .and .i64 (r3.1.getD (Int.toNat b1.2) default) j1) == 0)) = true → ((0 : Int) ≤ b1.2 ∧ (b1.2 : Int) < ((r3.1.length : Nat) : Int))) ∧ ((!(((bits .and .i64 (r3.1.getD (Int.toNat b1.2) default) j1) == 0) || decide ((r3.1.getD (Int.toNat b1.2) default) < 1))) = true → ((0 : Int) ≤ b1.2 ∧ (b1.2 : Int) < ((r3.1.length : Nat) : Int))) ∧ ((!((((bits .and .i64 (r3.1.getD (Int.toNat b1.2) default) j1) == 0) || decide ((r3.1.getD (Int.toNat b1.2) default) < 1)) || decide (14 < (r3.1.getD (Int.toNat b1.2) default)))) = true → ((0 : Int) ≤ b1.2 ∧ (b1.2 : Int) < ((r3.1.length : Nat) : Int)))) <|
    (bif (((((bits .and .i64 (r3.1.getD (Int.toNat b1.2) default) j1) == 0) || decide ((r3.1.getD (Int.toNat b1.2) default) < 1)) || decide (14 < (r3.1.getD (Int.toNat b1.2) default))) || ((bits .and .i64 (r3.1.getD (Int.toNat b1.2) default) 1) != 0)) then
    (some (Lp.ret false))
    else
    (grd (InI64 ((((r5.1.getD (Int.toNat b1.2) default).alcohol).lo) * 10000) ∧ InI64 (cut * ((r5.1.getD (Int.toNat b1.2) default).amount)) ∧ (decide ((cut * ((r5.1.getD (Int.toNat b1.2) default).amount)) ≤ ((((r5.1.getD (Int.toNat b1.2) default).alcohol).lo) * 10000)) = true → ((0 : Int) ≤ b1.2 ∧ (b1.2 : Int) < ((r3.1.length : Nat) : Int)))) <|
    (bif (decide ((cut * ((r5.1.getD (Int.toNat b1.2) default).amount)) ≤ ((((r5.1.getD (Int.toNat b1.2) default).alcohol).lo) * 10000)) && ((r3.1.getD (Int.toNat b1.2) default) != 2)) then
    (some (Lp.ret false))
    else
    (grd (InI64 (b1.2 + 1)) <|
    wormtublaw04_StillKinds_l1 fore cut end' by' r3 r5 n ((b1.1 + ((r5.1.getD (Int.toNat b1.2) default).amount)), (b1.2 + 1)))))))))))
    else
    (some (Lp.done ())))
def wormtublaw04_StillKinds (fuel : Nat) (c : MCurve) (p : MPot) (amounts : List Int) (fore : Int) (cut : Int) (end' : Int) (by' : Int) : Option Bool :=
(wormtublaw04_long c amounts).bind fun (r1 : Bool) =>
(bif r1 then
((wormtublaw04_alive fuel).bind fun (r2 : Bool) =>
some r2)
else
((still_Cuts fuel c (MPot.mk p.volume (MSpan.mk p.alcohol.lo p.alcohol.hi)) amounts fore cut end').bind fun (r3 : (List Int × Int)) =>
(bif (r3.2 != 0) then
(((bif (((r3.1.length : Nat) : Int) == 0) then wormtublaw04_alive fuel else some default)).bind fun (r4 : Bool) =>
some ((((r3.1.length : Nat) : Int) == 0) && r4))
else
((runOf fuel c (MPot.mk p.volume (MSpan.mk p.alcohol.lo p.alcohol.hi)) amounts).bind fun (r5 : (List MDrawn × MPot × Int)) =>
(bif (((((r5.2.2 != 0) || (((r3.1.length : Nat) : Int) != ((amounts.length : Nat) : Int))) || (((r5.1.length : Nat) : Int) != ((amounts.length : Nat) : Int))) || decide (cut < end')) || decide (end' < 0)) then
(some false)
else
((wormtublaw04_StillKinds_l1 fore cut end' by' r3 r5 fuel (0, 0)).bind fun lr1 => lr1.go fun x1 => wormtublaw04_StillKinds_k1 fuel x1))))))
set_option maxRecDepth 100000 in
set_option maxHeartbeats 4000000 in
theorem wormtublaw04_StillKinds_ok (fuel : Nat) (c : MCurve) (p : MPot) (amounts : List Int) (fore : Int) (cut : Int) (end' : Int) (by' : Int) (W : World) (A0 : Option Addr) (c0 : Nat) (h0 : c.liquid.length ≤ c0) (s0 : SlAt W A0 c.liquid.length 1 fun i => [.int .i64 (c.liquid.getD i default)]) (A1 : Option Addr) (c1 : Nat) (h1 : c.vapour.length ≤ c1) (s1 : SlAt W A1 c.vapour.length 2 fun i => [.int .i64 ((c.vapour.getD i default).lo), .int .i64 ((c.vapour.getD i default).hi)]) (A2 : Option Addr) (c2 : Nat) (h2 : amounts.length ≤ c2) (s2 : SlAt W A2 amounts.length 1 fun i => [.int .i64 (amounts.getD i default)]) (res : Bool) (h : wormtublaw04_StillKinds fuel c p amounts fore cut end' by' = some res) :
    Calls Go.Proofs.Try.prog 10 #[.agg #[.slice A0 c.liquid.length c0, .slice A1 c.vapour.length c1], .agg #[.int .i64 p.volume, .int .i64 p.alcohol.lo, .int .i64 p.alcohol.hi], .slice A2 amounts.length c2, .int .i64 fore, .int .i64 cut, .int .i64 end', .int .u32 by'] W fun e w' => e = .returned (.bool res) ∧ Below W.heap.size W w' := by
  refine sym_call (f := 10) (fn := Go.Proofs.Try.f10) (c := Go.Proofs.Try.f10.body.get rfl) Go.Proofs.Try.func10 rfl [.agg [.sl 0, .sl 1], .agg [.v (.int .i64 p.volume), .v (.int .i64 p.alcohol.lo), .v (.int .i64 p.alcohol.hi)], .sl 2, .v (.int .i64 fore), .v (.int .i64 cut), .v (.int .i64 end'), .v (.int .u32 by')] (wormtublaw04_StillKinds_R c amounts) [] (envOf [(0, ⟨A0, c.liquid.length, c0, 1⟩), (1, ⟨A1, c.vapour.length, c1, 2⟩), (2, ⟨A2, amounts.length, c2, 1⟩)]) allR (fun _ _ => rfl) (by kernel_rfl) (envOf_one trivial) ⟨s0.rd h0, s1.rd h1, s2.rd h2, trivial⟩ (AllRR.all _ _) trivial fun E a w S => ?_
  rw [wormtublaw04_StillKinds] at h
  refine sym_seq lay_ok mixed [(0, { g := 0 }), (1, { g := 1 })] [2, 3, 4, 5, 6, 7, 8] [0, 1] (⟨[(2, .sl 2), (3, .v (.int .i64 fore)), (4, .v (.int .i64 cut)), (5, .v (.int .i64 end')), (6, .v (.int .u32 by')), (7, .own 0 0), (8, .own 1 0)], ⟨[(0, .blk 25 [.sl 0, .sl 1]), (1, .blk 29 [.v (.int .i64 p.volume), .v (.int .i64 p.alcohol.lo), .v (.int .i64 p.alcohol.hi)])], (wormtublaw04_StillKinds_R c amounts), []⟩⟩) [] S (by kernel_rfl) (by kernel_rfl) (by kernel_rfl) trivial ?_
  clear S; intro E a w S
  refine wp_seq ?_
  obtain ⟨r1, e1, h⟩ := bind_some h
  refine sym_seq lay_ok mixed [(2, { res := .v (.bool r1) })] [2, 3, 4, 5, 6, 7, 8, 27] [0, 1] (⟨[(2, .sl 2), (3, .v (.int .i64 fore)), (4, .v (.int .i64 cut)), (5, .v (.int .i64 end')), (6, .v (.int .u32 by')), (7, .own 0 0), (8, .own 1 0), (27, .v (.bool r1))], ⟨[(0, .blk 25 [.sl 0, .sl 1]), (1, .blk 29 [.v (.int .i64 p.volume), .v (.int .i64 p.alcohol.lo), .v (.int .i64 p.alcohol.hi)])], (wormtublaw04_StillKinds_R c amounts), []⟩⟩) [.call ⟨[], (wormtublaw04_StillKinds_R c amounts), []⟩ 16 [.agg [.sl 0, .sl 1], .sl 2] (.v (.bool r1))] S (by kernel_rfl) (by kernel_rfl) (by kernel_rfl) ⟨⟨enters_16, fun E W _ hm => by obtain ⟨A0, c0, q0, l0, s0, _⟩ := Mem.sl hm (s := 0) rfl; obtain ⟨A1, c1, q1, l1, s1, _⟩ := Mem.sl hm (s := 1) rfl; obtain ⟨A2, c2, q2, l2, s2, _⟩ := Mem.sl hm (s := 2) rfl; simp only [SV.vals, SV.val, q0, q1, q2]; exact wormtublaw04_long_ok c amounts W A0 c0 l0 s0 A1 c1 l1 s1 A2 c2 l2 s2 r1 e1⟩, trivial⟩ ?_
  clear S; intro E a w S
  refine sym_if_last (b := r1) S rfl (fun hb1 => ?_) (fun hb1 => ?_)
  · have h := bif_t hb1 h
    obtain ⟨r2, e2, h⟩ := bind_some h
    refine sym_seq lay_ok mixed [(0, { res := .v (.bool r2) })] [14] [] (⟨[(14, .v (.bool r2))], ⟨[], (wormtublaw04_StillKinds_R c amounts), []⟩⟩) [.call ⟨[], (wormtublaw04_StillKinds_R c amounts), []⟩ 17 [] (.v (.bool r2))] S (by kernel_rfl) (by kernel_rfl) (by kernel_rfl) ⟨⟨enters_17, fun _ W _ _ => wormtublaw04_alive_ok fuel W r2 e2⟩, trivial⟩ ?_
    clear S; intro E a w S
    refine wp_ret ?_
    refine out_then_ret ?_
    have h := Option.some.inj h
    subst h
    exact sym_ret lay_ok [.v (.bool r2)] (by kernel_rfl) rfl S ⟨rfl, S.below rfl⟩
  · have h := bif_f hb1 h
    refine wp_skip ?_
    refine out_then_normal ?_
    obtain ⟨r3, e3, h⟩ := bind_some h
    refine sym_seq lay_ok mixed [(6, { g := 2, res := .tup [.ltr 2 0, .v (.int .i64 r3.2)], hx := some (SlicesAre 0 [⟨r3.1.length, 1, fun i => [.int .i64 (r3.1.getD i default)]⟩]) })] [2, 3, 4, 5, 6, 7, 8, 15, 16] [0, 1, 2] (⟨[(2, .sl 2), (3, .v (.int .i64 fore)), (4, .v (.int .i64 cut)), (5, .v (.int .i64 end')), (6, .v (.int .u32 by')), (7, .own 0 0), (8, .own 1 0), (15, .ltr 2 0), (16, .v (.int .i64 r3.2))], ⟨[(0, .blk 25 [.sl 0, .sl 1]), (1, .blk 29 [.v (.int .i64 p.volume), .v (.int .i64 p.alcohol.lo), .v (.int .i64 p.alcohol.hi)]), (2, .held (SlicesAre 0 [⟨r3.1.length, 1, fun i => [.int .i64 (r3.1.getD i default)]⟩]))], (wormtublaw04_StillKinds_R c amounts), []⟩⟩) [.callx ⟨[], (wormtublaw04_StillKinds_R c amounts), []⟩ 2 27 [.agg [.sl 0, .sl 1], .agg [.v (.int .i64 p.volume), .v (.int .i64 p.alcohol.lo), .v (.int .i64 p.alcohol.hi)], .sl 2, .v (.int .i64 fore), .v (.int .i64 cut), .v (.int .i64 end')] (.tup [.ltr 2 0, .v (.int .i64 r3.2)]) (SlicesAre 0 [⟨r3.1.length, 1, fun i => [.int .i64 (r3.1.getD i default)]⟩])] S (by kernel_rfl) (by kernel_rfl) (by kernel_rfl) ⟨⟨enters_27, fun E W _ hm => by obtain ⟨A0, c0, q0, l0, s0, _⟩ := Mem.sl hm (s := 0) rfl; obtain ⟨A1, c1, q1, l1, s1, _⟩ := Mem.sl hm (s := 1) rfl; obtain ⟨A2, c2, q2, l2, s2, _⟩ := Mem.sl hm (s := 2) rfl; simp only [SV.vals, SV.val, q0, q1, q2]; exact ((still_Cuts_ok fuel c (MPot.mk p.volume (MSpan.mk p.alcohol.lo p.alcohol.hi)) amounts fore cut end' W A0 c0 l0 s0 A1 c1 l1 s1 A2 c2 l2 s2 r3 e3).mono fun e w' hx => by obtain ⟨v, h1, h2, h3, h4⟩ := hx; exact ⟨v, h1, h2, h3, h4.mono fun _ _ h => .inl h⟩)⟩, trivial⟩ ?_
    clear S; intro E a w S
    obtain ⟨E, S⟩ := St.read 2 0 1003 ⟨r3.1.length, 1, fun i => [.int .i64 (r3.1.getD i default)]⟩ (⟨[(2, .sl 2), (3, .v (.int .i64 fore)), (4, .v (.int .i64 cut)), (5, .v (.int .i64 end')), (6, .v (.int .u32 by')), (7, .own 0 0), (8, .own 1 0), (15, .sl 1003), (16, .v (.int .i64 r3.2))], ⟨[(0, .blk 25 [.sl 0, .sl 1]), (1, .blk 29 [.v (.int .i64 p.volume), .v (.int .i64 p.alcohol.lo), .v (.int .i64 p.alcohol.hi)]), (2, .held (SlicesAre 0 [⟨r3.1.length, 1, fun i => [.int .i64 (r3.1.getD i default)]⟩]))], ((1003, ⟨r3.1.length, 1, fun i => [.int .i64 (r3.1.getD i default)]⟩) :: (wormtublaw04_StillKinds_R c amounts)), []⟩⟩) rfl (fun v w h => h.1) (by intro _ h; cases h) (by kernel_rfl) (by kernel_rfl) S
    refine wp_seq ?_
    refine sym_seq lay_ok mixed [] [2, 3, 4, 5, 6, 7, 8, 15, 40] [0, 1] (⟨[(2, .sl 2), (3, .v (.int .i64 fore)), (4, .v (.int .i64 cut)), (5, .v (.int .i64 end')), (6, .v (.int .u32 by')), (7, .own 0 0), (8, .own 1 0), (15, .sl 1003), (40, .v (.bool (r3.2 != 0)))], ⟨[(0, .blk 25 [.sl 0, .sl 1]), (1, .blk 29 [.v (.int .i64 p.volume), .v (.int .i64 p.alcohol.lo), .v (.int .i64 p.alcohol.hi)])], ((1003, ⟨r3.1.length, 1, fun i => [.int .i64 (r3.1.getD i default)]⟩) :: (wormtublaw04_StillKinds_R c amounts)), []⟩⟩) [] S (by kernel_rfl) (by kernel_rfl) (by kernel_rfl) trivial ?_
    clear S; intro E a w S
    refine sym_if_last (b := (r3.2 != 0)) S rfl (fun hb2 => ?_) (fun hb2 => ?_)
    · have h := bif_t hb2 h
      obtain ⟨r4, e4, h⟩ := bind_some h
      refine sym_seq lay_ok mixed [(4, { og := true, res := .v (.bool r4) }), (5, { pk := true })] [14] [] (⟨[(14, .v (.bool ((((r3.1.length : Nat) : Int) == 0) && r4)))], ⟨[], ((1003, ⟨r3.1.length, 1, fun i => [.int .i64 (r3.1.getD i default)]⟩) :: (wormtublaw04_StillKinds_R c amounts)), []⟩⟩) [.when (((r3.1.length : Nat) : Int) == 0) (.call ⟨[], ((1003, ⟨r3.1.length, 1, fun i => [.int .i64 (r3.1.getD i default)]⟩) :: (wormtublaw04_StillKinds_R c amounts)), []⟩ 17 [] (.v (.bool r4))), .imp (((r3.1.length : Nat) : Int) == 0) (((r3.1.length : Nat) : Int) == 0)] S (by kernel_rfl) (by kernel_rfl) (by kernel_rfl) ⟨fun hW => ⟨enters_17, fun _ W _ _ => wormtublaw04_alive_ok fuel W r4 (bif_t hW e4)⟩, fun h => h, trivial⟩ ?_
      clear S; intro E a w S
      refine wp_ret ?_
      refine out_then_ret ?_
      have h := Option.some.inj h
      subst h
      exact sym_ret lay_ok [.v (.bool ((((r3.1.length : Nat) : Int) == 0) && r4))] (by kernel_rfl) rfl S ⟨rfl, S.below rfl⟩
    · have h := bif_f hb2 h
      refine wp_skip ?_
      refine out_then_normal ?_
      obtain ⟨r5, e5, h⟩ := bind_some h
      refine sym_seq lay_ok mixed [(3, { g := 3, res := .tup [.ltr 3 0, .agg [.v (.int .i64 r5.2.1.volume), .v (.int .i64 r5.2.1.alcohol.lo), .v (.int .i64 r5.2.1.alcohol.hi)], .v (.int .i64 r5.2.2)], hx := some (SlicesAre 0 [⟨r5.1.length, 3, fun i => [.int .i64 ((r5.1.getD i default).amount), .int .i64 (((r5.1.getD i default).alcohol).lo), .int .i64 (((r5.1.getD i default).alcohol).hi)]⟩]) }), (8, { g := 4 })] [2, 3, 4, 5, 6, 15, 17, 19] [3] (⟨[(2, .sl 2), (3, .v (.int .i64 fore)), (4, .v (.int .i64 cut)), (5, .v (.int .i64 end')), (6, .v (.int .u32 by')), (15, .sl 1003), (17, .ltr 3 0), (19, .v (.int .i64 r5.2.2))], ⟨[(3, .held (SlicesAre 0 [⟨r5.1.length, 3, fun i => [.int .i64 ((r5.1.getD i default).amount), .int .i64 (((r5.1.getD i default).alcohol).lo), .int .i64 (((r5.1.getD i default).alcohol).hi)]⟩]))], ((1003, ⟨r3.1.length, 1, fun i => [.int .i64 (r3.1.getD i default)]⟩) :: (wormtublaw04_StillKinds_R c amounts)), []⟩⟩) [.callx ⟨[], ((1003, ⟨r3.1.length, 1, fun i => [.int .i64 (r3.1.getD i default)]⟩) :: (wormtublaw04_StillKinds_R c amounts)), []⟩ 3 22 [.agg [.sl 0, .sl 1], .agg [.v (.int .i64 p.volume), .v (.int .i64 p.alcohol.lo), .v (.int .i64 p.alcohol.hi)], .sl 2] (.tup [.ltr 3 0, .agg [.v (.int .i64 r5.2.1.volume), .v (.int .i64 r5.2.1.alcohol.lo), .v (.int .i64 r5.2.1.alcohol.hi)], .v (.int .i64 r5.2.2)]) (SlicesAre 0 [⟨r5.1.length, 3, fun i => [.int .i64 ((r5.1.getD i default).amount), .int .i64 (((r5.1.getD i default).alcohol).lo), .int .i64 (((r5.1.getD i default).alcohol).hi)]⟩])] S (by kernel_rfl) (by kernel_rfl) (by kernel_rfl) ⟨⟨enters_22, fun E W _ hm => by obtain ⟨A0, c0, q0, l0, s0, _⟩ := Mem.sl hm (s := 0) rfl; obtain ⟨A1, c1, q1, l1, s1, _⟩ := Mem.sl hm (s := 1) rfl; obtain ⟨A2, c2, q2, l2, s2, _⟩ := Mem.sl hm (s := 2) rfl; simp only [SV.vals, SV.val, q0, q1, q2]; exact ((runOf_ok fuel c (MPot.mk p.volume (MSpan.mk p.alcohol.lo p.alcohol.hi)) amounts W A0 c0 l0 s0 A1 c1 l1 s1 A2 c2 l2 s2 r5 e5).mono fun e w' hx => by obtain ⟨v, h1, h2, h3, h4⟩ := hx; exact ⟨v, h1, h2, h3, h4.mono fun _ _ h => .inl h⟩)⟩, trivial⟩ ?_
      clear S; intro E a w S
      obtain ⟨E, S⟩ := St.read 3 0 1004 ⟨r5.1.length, 3, fun i => [.int .i64 ((r5.1.getD i default).amount), .int .i64 (((r5.1.getD i default).alcohol).lo), .int .i64 (((r5.1.getD i default).alcohol).hi)]⟩ (⟨[(2, .sl 2), (3, .v (.int .i64 fore)), (4, .v (.int .i64 cut)), (5, .v (.int .i64 end')), (6, .v (.int .u32 by')), (15, .sl 1003), (17, .sl 1004), (19, .v (.int .i64 r5.2.2))], ⟨[(3, .held (SlicesAre 0 [⟨r5.1.length, 3, fun i => [.int .i64 ((r5.1.getD i default).amount), .int .i64 (((r5.1.getD i default).alcohol).lo), .int .i64 (((r5.1.getD i default).alcohol).hi)]⟩]))], ((1004, ⟨r5.1.length, 3, fun i => [.int .i64 ((r5.1.getD i default).amount), .int .i64 (((r5.1.getD i default).alcohol).lo), .int .i64 (((r5.1.getD i default).alcohol).hi)]⟩) :: ((1003, ⟨r3.1.length, 1, fun i => [.int .i64 (r3.1.getD i default)]⟩) :: (wormtublaw04_StillKinds_R c amounts))), []⟩⟩) rfl (fun v w h => h.1) (by intro _ h; cases h) (by kernel_rfl) (by kernel_rfl) S
      refine wp_seq ?_
      refine sym_seq lay_ok mixed [(3, { og := true }), (4, { og := true }), (5, { og := true }), (6, { og := true }), (7, { og := true }), (8, { pk := true }), (10, { og := true }), (11, { og := true }), (12, { og := true }), (13, { og := true }), (14, { og := true }), (15, { pk := true }), (17, { og := true }), (18, { og := true }), (19, { og := true }), (20, { pk := true }), (22, { og := true }), (23, { og := true }), (24, { pk := true })] [3, 4, 5, 6, 15, 17, 79] [] (⟨[(3, .v (.int .i64 fore)), (4, .v (.int .i64 cut)), (5, .v (.int .i64 end')), (6, .v (.int .u32 by')), (15, .sl 1003), (17, .sl 1004), (79, .v (.bool (((((r5.2.2 != 0) || (((r3.1.length : Nat) : Int) != ((amounts.length : Nat) : Int))) || (((r5.1.length : Nat) : Int) != ((amounts.length : Nat) : Int))) || decide (cut < end')) || decide (end' < 0))))], ⟨[], ((1004, ⟨r5.1.length, 3, fun i => [.int .i64 ((r5.1.getD i default).amount), .int .i64 (((r5.1.getD i default).alcohol).lo), .int .i64 (((r5.1.getD i default).alcohol).hi)]⟩) :: ((1003, ⟨r3.1.length, 1, fun i => [.int .i64 (r3.1.getD i default)]⟩) :: (wormtublaw04_StillKinds_R c amounts))), []⟩⟩) [.imp (!(r5.2.2 != 0)) (!(r5.2.2 != 0)), .imp (!(r5.2.2 != 0)) (!(r5.2.2 != 0)), .imp (!(r5.2.2 != 0)) (!(r5.2.2 != 0)), .imp (!(r5.2.2 != 0)) (!(r5.2.2 != 0)), .imp (!(r5.2.2 != 0)) (!(r5.2.2 != 0)), .imp (!((r5.2.2 != 0) || (((r3.1.length : Nat) : Int) != ((amounts.length : Nat) : Int)))) (!((r5.2.2 != 0) || (((r3.1.length : Nat) : Int) != ((amounts.length : Nat) : Int)))), .imp (!((r5.2.2 != 0) || (((r3.1.length : Nat) : Int) != ((amounts.length : Nat) : Int)))) (!((r5.2.2 != 0) || (((r3.1.length : Nat) : Int) != ((amounts.length : Nat) : Int)))), .imp (!((r5.2.2 != 0) || (((r3.1.length : Nat) : Int) != ((amounts.length : Nat) : Int)))) (!((r5.2.2 != 0) || (((r3.1.length : Nat) : Int) != ((amounts.length : Nat) : Int)))), .imp (!((r5.2.2 != 0) || (((r3.1.length : Nat) : Int) != ((amounts.length : Nat) : Int)))) (!((r5.2.2 != 0) || (((r3.1.length : Nat) : Int) != ((amounts.length : Nat) : Int)))), .imp (!((r5.2.2 != 0) || (((r3.1.length : Nat) : Int) != ((amounts.length : Nat) : Int)))) (!((r5.2.2 != 0) || (((r3.1.length : Nat) : Int) != ((amounts.length : Nat) : Int)))), .imp (!(((r5.2.2 != 0) || (((r3.1.length : Nat) : Int) != ((amounts.length : Nat) : Int))) || (((r5.1.length : Nat) : Int) != ((amounts.length : Nat) : Int)))) (!(((r5.2.2 != 0) || (((r3.1.length : Nat) : Int) != ((amounts.length : Nat) : Int))) || (((r5.1.length : Nat) : Int) != ((amounts.length : Nat) : Int)))), .imp (!(((r5.2.2 != 0) || (((r3.1.length : Nat) : Int) != ((amounts.length : Nat) : Int))) || (((r5.1.length : Nat) : Int) != ((amounts.length : Nat) : Int)))) (!(((r5.2.2 != 0) || (((r3.1.length : Nat) : Int) != ((amounts.length : Nat) : Int))) || (((r5.1.length : Nat) : Int) != ((amounts.length : Nat) : Int)))), .imp (!(((r5.2.2 != 0) || (((r3.1.length : Nat) : Int) != ((amounts.length : Nat) : Int))) || (((r5.1.length : Nat) : Int) != ((amounts.length : Nat) : Int)))) (!(((r5.2.2 != 0) || (((r3.1.length : Nat) : Int) != ((amounts.length : Nat) : Int))) || (((r5.1.length : Nat) : Int) != ((amounts.length : Nat) : Int)))), .imp (!((((r5.2.2 != 0) || (((r3.1.length : Nat) : Int) != ((amounts.length : Nat) : Int))) || (((r5.1.length : Nat) : Int) != ((amounts.length : Nat) : Int))) || decide (cut < end'))) (!((((r5.2.2 != 0) || (((r3.1.length : Nat) : Int) != ((amounts.length : Nat) : Int))) || (((r5.1.length : Nat) : Int) != ((amounts.length : Nat) : Int))) || decide (cut < end'))), .imp (!((((r5.2.2 != 0) || (((r3.1.length : Nat) : Int) != ((amounts.length : Nat) : Int))) || (((r5.1.length : Nat) : Int) != ((amounts.length : Nat) : Int))) || decide (cut < end'))) (!((((r5.2.2 != 0) || (((r3.1.length : Nat) : Int) != ((amounts.length : Nat) : Int))) || (((r5.1.length : Nat) : Int) != ((amounts.length : Nat) : Int))) || decide (cut < end')))] S (by kernel_rfl) (by kernel_rfl) (by kernel_rfl) ⟨fun h => h, fun h => h, fun h => h, fun h => h, fun h => h, fun h => h, fun h => h, fun h => h, fun h => h, fun h => h, fun h => h, fun h => h, fun h => h, fun h => h, fun h => h, trivial⟩ ?_
      clear S; intro E a w S
      refine sym_if_last (b := (((((r5.2.2 != 0) || (((r3.1.length : Nat) : Int) != ((amounts.length : Nat) : Int))) || (((r5.1.length : Nat) : Int) != ((amounts.length : Nat) : Int))) || decide (cut < end')) || decide (end' < 0))) S rfl (fun hb3 => ?_) (fun hb3 => ?_)
      · have h := bif_t hb3 h
        refine sym_seq lay_ok mixed [] [14] [] (⟨[(14, .v (.bool false))], ⟨[], ((1004, ⟨r5.1.length, 3, fun i => [.int .i64 ((r5.1.getD i default).amount), .int .i64 (((r5.1.getD i default).alcohol).lo), .int .i64 (((r5.1.getD i default).alcohol).hi)]⟩) :: ((1003, ⟨r3.1.length, 1, fun i => [.int .i64 (r3.1.getD i default)]⟩) :: (wormtublaw04_StillKinds_R c amounts))), []⟩⟩) [] S (by kernel_rfl) (by kernel_rfl) (by kernel_rfl) trivial ?_
        clear S; intro E a w S
        refine wp_ret ?_
        refine out_then_ret ?_
        have h := Option.some.inj h
        subst h
        exact sym_ret lay_ok [.v (.bool false)] (by kernel_rfl) rfl S ⟨rfl, S.below rfl⟩
      · have h := bif_f hb3 h
        refine wp_skip ?_
        refine out_then_normal ?_
        refine sym_seq lay_ok mixed [] [3, 4, 5, 6, 15, 17, 20] [] (⟨[(3, .v (.int .i64 fore)), (4, .v (.int .i64 cut)), (5, .v (.int .i64 end')), (6, .v (.int .u32 by')), (15, .sl 1003), (17, .sl 1004), (20, .v (.int .i64 0))], ⟨[], ((1004, ⟨r5.1.length, 3, fun i => [.int .i64 ((r5.1.getD i default).amount), .int .i64 (((r5.1.getD i default).alcohol).lo), .int .i64 (((r5.1.getD i default).alcohol).hi)]⟩) :: ((1003, ⟨r3.1.length, 1, fun i => [.int .i64 (r3.1.getD i default)]⟩) :: (wormtublaw04_StillKinds_R c amounts))), []⟩⟩) [] S (by kernel_rfl) (by kernel_rfl) (by kernel_rfl) trivial ?_
        clear S; intro E a w S
        refine wp_seq ?_
        refine sym_seq lay_ok mixed [] [3, 4, 5, 6, 15, 20, 80, 81, 82] [] (⟨[(3, .v (.int .i64 fore)), (4, .v (.int .i64 cut)), (5, .v (.int .i64 end')), (6, .v (.int .u32 by')), (15, .sl 1003), (20, .v (.int .i64 0)), (80, .sl 1004), (81, .v (.int .i64 ((r5.1.length : Nat) : Int))), (82, .v (.int .i64 0))], ⟨[], ((1004, ⟨r5.1.length, 3, fun i => [.int .i64 ((r5.1.getD i default).amount), .int .i64 (((r5.1.getD i default).alcohol).lo), .int .i64 (((r5.1.getD i default).alcohol).hi)]⟩) :: ((1003, ⟨r3.1.length, 1, fun i => [.int .i64 (r3.1.getD i default)]⟩) :: (wormtublaw04_StillKinds_R c amounts))), []⟩⟩) [] S (by kernel_rfl) (by kernel_rfl) (by kernel_rfl) trivial ?_
        clear S; intro E a w S
        obtain ⟨lr1, e6, hp1⟩ := bind_some h
        clear h
        refine sym_block_last (G := fun a w => ∃ E, ∃ x1 : Unit, wormtublaw04_StillKinds_k1 fuel x1 = some res ∧ St ⟨W, noC, Go.Proofs.Try.f10.ntmps, [], allR, noρ, (envOf [(0, ⟨A0, c.liquid.length, c0, 1⟩), (1, ⟨A1, c.vapour.length, c1, 2⟩), (2, ⟨A2, amounts.length, c2, 1⟩)]).sl, (envOf [(0, ⟨A0, c.liquid.length, c0, 1⟩), (1, ⟨A1, c.vapour.length, c1, 2⟩), (2, ⟨A2, amounts.length, c2, 1⟩)]).x⟩ (⟨[], ⟨[], ((1004, ⟨r5.1.length, 3, fun i => [.int .i64 ((r5.1.getD i default).amount), .int .i64 (((r5.1.getD i default).alcohol).lo), .int .i64 (((r5.1.getD i default).alcohol).hi)]⟩) :: ((1003, ⟨r3.1.length, 1, fun i => [.int .i64 (r3.1.getD i default)]⟩) :: (wormtublaw04_StillKinds_R c amounts))), []⟩⟩) E a w) ?_ ?_
        · refine wp_loop_rounds fuel ?_
          refine sym_rounds (F := fun n b1 => wormtublaw04_StillKinds_l1 fore cut end' by' r3 r5 n b1 = some lr1) (H := fun b1 => ⟨[(3, .v (.int .i64 fore)), (4, .v (.int .i64 cut)), (5, .v (.int .i64 end')), (6, .v (.int .u32 by')), (15, .sl 1003), (20, .v (.int .i64 b1.1)), (80, .sl 1004), (81, .v (.int .i64 ((r5.1.length : Nat) : Int))), (82, .v (.int .i64 b1.2))], ⟨[], ((1004, ⟨r5.1.length, 3, fun i => [.int .i64 ((r5.1.getD i default).amount), .int .i64 (((r5.1.getD i default).alcohol).lo), .int .i64 (((r5.1.getD i default).alcohol).hi)]⟩) :: ((1003, ⟨r3.1.length, 1, fun i => [.int .i64 (r3.1.getD i default)]⟩) :: (wormtublaw04_StillKinds_R c amounts))), []⟩⟩) (0, 0) (fun b hb => by have hb : none = some lr1 := hb; cases hb) ?_ _ _ _ _ e6 (St.cast (P := Go.Proofs.Try.prog) [] [] [3, 4, 5, 6, 15, 20, 80, 81, 82] [] [1004, 1003, 0, 1, 2] _ [] (by kernel_rfl) trivial S)
          clear e6 S
          intro n b1 E a w h ih S
          rw [wormtublaw04_StillKinds_l1] at h
          refine sym_seq lay_ok mixed [] [3, 4, 5, 6, 15, 20, 80, 81, 82, 83] [] (⟨[(3, .v (.int .i64 fore)), (4, .v (.int .i64 cut)), (5, .v (.int .i64 end')), (6, .v (.int .u32 by')), (15, .sl 1003), (20, .v (.int .i64 b1.1)), (80, .sl 1004), (81, .v (.int .i64 ((r5.1.length : Nat) : Int))), (82, .v (.int .i64 b1.2)), (83, .v (.bool (decide (b1.2 < ((r5.1.length : Nat) : Int)))))], ⟨[], ((1004, ⟨r5.1.length, 3, fun i => [.int .i64 ((r5.1.getD i default).amount), .int .i64 (((r5.1.getD i default).alcohol).lo), .int .i64 (((r5.1.getD i default).alcohol).hi)]⟩) :: ((1003, ⟨r3.1.length, 1, fun i => [.int .i64 (r3.1.getD i default)]⟩) :: (wormtublaw04_StillKinds_R c amounts))), []⟩⟩) [] S (by kernel_rfl) (by kernel_rfl) (by kernel_rfl) trivial ?_
          clear S; intro E a w S
          refine sym_if (b := decide (b1.2 < ((r5.1.length : Nat) : Int))) S rfl (fun hb4 => ?_) (fun hb4 => ?_)
          · have h := bif_t hb4 h
            refine wp_skip ?_
            refine out_then_normal ?_
            refine wp_seq ?_
            refine wp_block ?_
            obtain ⟨g1, h⟩ := grd_some h
            refine sym_seq lay_ok mixed [(3, { g := 6 })] [3, 4, 5, 6, 15, 20, 80, 81, 82, 22, 21] [6] (⟨[(3, .v (.int .i64 fore)), (4, .v (.int .i64 cut)), (5, .v (.int .i64 end')), (6, .v (.int .u32 by')), (15, .sl 1003), (20, .v (.int .i64 b1.1)), (80, .sl 1004), (81, .v (.int .i64 ((r5.1.length : Nat) : Int))), (82, .v (.int .i64 b1.2)), (22, .own 6 0), (21, .v (.int .i64 b1.2))], ⟨[(6, .blk 36 [.v (.int .i64 ((r5.1.getD (Int.toNat b1.2) default).amount)), .v (.int .i64 (((r5.1.getD (Int.toNat b1.2) default).alcohol).lo)), .v (.int .i64 (((r5.1.getD (Int.toNat b1.2) default).alcohol).hi))])], ((1004, ⟨r5.1.length, 3, fun i => [.int .i64 ((r5.1.getD i default).amount), .int .i64 (((r5.1.getD i default).alcohol).lo), .int .i64 (((r5.1.getD i default).alcohol).hi)]⟩) :: ((1003, ⟨r3.1.length, 1, fun i => [.int .i64 (r3.1.getD i default)]⟩) :: (wormtublaw04_StillKinds_R c amounts))), []⟩⟩) [.idx b1.2 r5.1.length, .idx b1.2 r5.1.length] S (by kernel_rfl) (by kernel_rfl) (by kernel_rfl) ⟨g1, g1, trivial⟩ ?_
            clear S; intro E a w S
            obtain ⟨g2, h⟩ := grd_some h
            refine sym_seq lay_ok mixed [] [3, 4, 5, 6, 15, 20, 80, 81, 82, 22, 21] [6] (⟨[(3, .v (.int .i64 fore)), (4, .v (.int .i64 cut)), (5, .v (.int .i64 end')), (6, .v (.int .u32 by')), (15, .sl 1003), (20, .v (.int .i64 (b1.1 + ((r5.1.getD (Int.toNat b1.2) default).amount)))), (80, .sl 1004), (81, .v (.int .i64 ((r5.1.length : Nat) : Int))), (82, .v (.int .i64 b1.2)), (22, .own 6 0), (21, .v (.int .i64 b1.2))], ⟨[(6, .blk 36 [.v (.int .i64 ((r5.1.getD (Int.toNat b1.2) default).amount)), .v (.int .i64 (((r5.1.getD (Int.toNat b1.2) default).alcohol).lo)), .v (.int .i64 (((r5.1.getD (Int.toNat b1.2) default).alcohol).hi))])], ((1004, ⟨r5.1.length, 3, fun i => [.int .i64 ((r5.1.getD i default).amount), .int .i64 (((r5.1.getD i default).alcohol).lo), .int .i64 (((r5.1.getD i default).alcohol).hi)]⟩) :: ((1003, ⟨r3.1.length, 1, fun i => [.int .i64 (r3.1.getD i default)]⟩) :: (wormtublaw04_StillKinds_R c amounts))), []⟩⟩) [.rng .i64 (b1.1 + ((r5.1.getD (Int.toNat b1.2) default).amount))] S (by kernel_rfl) (by kernel_rfl) (by kernel_rfl) ⟨rngI64 g2, trivial⟩ ?_
            clear S; intro E a w S
            refine wp_seq ?_
            obtain ⟨g3, h⟩ := grd_some h
            refine sym_seq lay_ok mixed [] [3, 4, 5, 6, 15, 20, 80, 81, 82, 22, 21, 99] [6] (⟨[(3, .v (.int .i64 fore)), (4, .v (.int .i64 cut)), (5, .v (.int .i64 end')), (6, .v (.int .u32 by')), (15, .sl 1003), (20, .v (.int .i64 (b1.1 + ((r5.1.getD (Int.toNat b1.2) default).amount)))), (80, .sl 1004), (81, .v (.int .i64 ((r5.1.length : Nat) : Int))), (82, .v (.int .i64 b1.2)), (22, .own 6 0), (21, .v (.int .i64 b1.2)), (99, .v (.bool (!(((r3.1.getD (Int.toNat b1.2) default) == 1) == (decide ((b1.1 + ((r5.1.getD (Int.toNat b1.2) default).amount)) ≤ fore))))))], ⟨[(6, .blk 36 [.v (.int .i64 ((r5.1.getD (Int.toNat b1.2) default).amount)), .v (.int .i64 (((r5.1.getD (Int.toNat b1.2) default).alcohol).lo)), .v (.int .i64 (((r5.1.getD (Int.toNat b1.2) default).alcohol).hi))])], ((1004, ⟨r5.1.length, 3, fun i => [.int .i64 ((r5.1.getD i default).amount), .int .i64 (((r5.1.getD i default).alcohol).lo), .int .i64 (((r5.1.getD i default).alcohol).hi)]⟩) :: ((1003, ⟨r3.1.length, 1, fun i => [.int .i64 (r3.1.getD i default)]⟩) :: (wormtublaw04_StillKinds_R c amounts))), []⟩⟩) [.idx b1.2 r3.1.length, .idx b1.2 r3.1.length] S (by kernel_rfl) (by kernel_rfl) (by kernel_rfl) ⟨g3, g3, trivial⟩ ?_
            clear S; intro E a w S
            refine sym_if_last (b := (!(((r3.1.getD (Int.toNat b1.2) default) == 1) == (decide ((b1.1 + ((r5.1.getD (Int.toNat b1.2) default).amount)) ≤ fore))))) S rfl (fun hb5 => ?_) (fun hb5 => ?_)
            · have h := bif_t hb5 h
              refine sym_seq lay_ok mixed [] [14] [] (⟨[(14, .v (.bool false))], ⟨[], ((1004, ⟨r5.1.length, 3, fun i => [.int .i64 ((r5.1.getD i default).amount), .int .i64 (((r5.1.getD i default).alcohol).lo), .int .i64 (((r5.1.getD i default).alcohol).hi)]⟩) :: ((1003, ⟨r3.1.length, 1, fun i => [.int .i64 (r3.1.getD i default)]⟩) :: (wormtublaw04_StillKinds_R c amounts))), []⟩⟩) [] S (by kernel_rfl) (by kernel_rfl) (by kernel_rfl) trivial ?_
              clear S; intro E a w S
              refine wp_ret ?_
              refine out_then_ret ?_
              refine out_block_ret ?_
              refine out_then_ret ?_
              refine out_then_ret ?_
              refine out_block_ret ?_
              refine out_then_ret ?_
              refine out_then_ret ?_
              have hr := Option.some.inj h
              subst hr
              have hr := Option.some.inj hp1
              subst hr
              exact sym_ret lay_ok [.v (.bool false)] (by kernel_rfl) rfl S ⟨rfl, S.below rfl⟩
            · have h := bif_f hb5 h
              refine wp_skip ?_
              refine out_then_normal ?_
              refine wp_seq ?_
              refine sym_seq lay_ok mixed [] [3, 4, 5, 6, 15, 20, 80, 81, 82, 22, 21, 102] [6] (⟨[(3, .v (.int .i64 fore)), (4, .v (.int .i64 cut)), (5, .v (.int .i64 end')), (6, .v (.int .u32 by')), (15, .sl 1003), (20, .v (.int .i64 (b1.1 + ((r5.1.getD (Int.toNat b1.2) default).amount)))), (80, .sl 1004), (81, .v (.int .i64 ((r5.1.length : Nat) : Int))), (82, .v (.int .i64 b1.2)), (22, .own 6 0), (21, .v (.int .i64 b1.2)), (102, .v (.bool (decide ((b1.1 + ((r5.1.getD (Int.toNat b1.2) default).amount)) ≤ fore))))], ⟨[(6, .blk 36 [.v (.int .i64 ((r5.1.getD (Int.toNat b1.2) default).amount)), .v (.int .i64 (((r5.1.getD (Int.toNat b1.2) default).alcohol).lo)), .v (.int .i64 (((r5.1.getD (Int.toNat b1.2) default).alcohol).hi))])], ((1004, ⟨r5.1.length, 3, fun i => [.int .i64 ((r5.1.getD i default).amount), .int .i64 (((r5.1.getD i default).alcohol).lo), .int .i64 (((r5.1.getD i default).alcohol).hi)]⟩) :: ((1003, ⟨r3.1.length, 1, fun i => [.int .i64 (r3.1.getD i default)]⟩) :: (wormtublaw04_StillKinds_R c amounts))), []⟩⟩) [] S (by kernel_rfl) (by kernel_rfl) (by kernel_rfl) trivial ?_
              clear S; intro E a w S
              refine sym_if_last (b := decide ((b1.1 + ((r5.1.getD (Int.toNat b1.2) default).amount)) ≤ fore)) S rfl (fun hb6 => ?_) (fun hb6 => ?_)
              · have h := bif_t hb6 h
                refine wp_exit ?_
                refine out_then_exit ?_
                refine out_block_here ?_
                refine out_then_normal ?_
                obtain ⟨g4, h⟩ := grd_some h
                refine sym_last lay_ok mixed [] [3, 4, 5, 6, 15, 20, 80, 81, 82] [] (⟨[(3, .v (.int .i64 fore)), (4, .v (.int .i64 cut)), (5, .v (.int .i64 end')), (6, .v (.int .u32 by')), (15, .sl 1003), (20, .v (.int .i64 (b1.1 + ((r5.1.getD (Int.toNat b1.2) default).amount)))), (80, .sl 1004), (81, .v (.int .i64 ((r5.1.length : Nat) : Int))), (82, .v (.int .i64 (b1.2 + 1)))], ⟨[], ((1004, ⟨r5.1.length, 3, fun i => [.int .i64 ((r5.1.getD i default).amount), .int .i64 (((r5.1.getD i default).alcohol).lo), .int .i64 (((r5.1.getD i default).alcohol).hi)]⟩) :: ((1003, ⟨r3.1.length, 1, fun i => [.int .i64 (r3.1.getD i default)]⟩) :: (wormtublaw04_StillKinds_R c amounts))), []⟩⟩) [.rng .i64 (b1.2 + 1)] S (by kernel_rfl) (by kernel_rfl) (by kernel_rfl) ⟨rngI64 g4, trivial⟩ ?_
                clear S; intro E a w S
                refine out_then_normal ?_
                exact ih ((b1.1 + ((r5.1.getD (Int.toNat b1.2) default).amount)), (b1.2 + 1)) _ _ _ h (St.cast (P := Go.Proofs.Try.prog) [] [] [3, 4, 5, 6, 15, 20, 80, 81, 82] [] [1004, 1003, 0, 1, 2] _ [] (by kernel_rfl) trivial S)
              · have h := bif_f hb6 h
                refine wp_skip ?_
                refine out_then_normal ?_
                obtain ⟨r6, e7, h⟩ := bind_some h
                obtain ⟨g5, h⟩ := grd_some h
                refine sym_seq lay_ok mixed [(3, { res := .v (.int .i64 r6) })] [3, 4, 5, 6, 15, 20, 80, 81, 82, 22, 21, 23] [6] (⟨[(3, .v (.int .i64 fore)), (4, .v (.int .i64 cut)), (5, .v (.int .i64 end')), (6, .v (.int .u32 by')), (15, .sl 1003), (20, .v (.int .i64 (b1.1 + ((r5.1.getD (Int.toNat b1.2) default).amount)))), (80, .sl 1004), (81, .v (.int .i64 ((r5.1.length : Nat) : Int))), (82, .v (.int .i64 b1.2)), (22, .own 6 0), (21, .v (.int .i64 b1.2)), (23, .v (.int .i64 (r6 * 10000)))], ⟨[(6, .blk 36 [.v (.int .i64 ((r5.1.getD (Int.toNat b1.2) default).amount)), .v (.int .i64 (((r5.1.getD (Int.toNat b1.2) default).alcohol).lo)), .v (.int .i64 (((r5.1.getD (Int.toNat b1.2) default).alcohol).hi))])], ((1004, ⟨r5.1.length, 3, fun i => [.int .i64 ((r5.1.getD i default).amount), .int .i64 (((r5.1.getD i default).alcohol).lo), .int .i64 (((r5.1.getD i default).alcohol).hi)]⟩) :: ((1003, ⟨r3.1.length, 1, fun i => [.int .i64 (r3.1.getD i default)]⟩) :: (wormtublaw04_StillKinds_R c amounts))), []⟩⟩) [.call ⟨[], ((1004, ⟨r5.1.length, 3, fun i => [.int .i64 ((r5.1.getD i default).amount), .int .i64 (((r5.1.getD i default).alcohol).lo), .int .i64 (((r5.1.getD i default).alcohol).hi)]⟩) :: ((1003, ⟨r3.1.length, 1, fun i => [.int .i64 (r3.1.getD i default)]⟩) :: (wormtublaw04_StillKinds_R c amounts))), []⟩ 41 [.agg [.v (.int .i64 (((r5.1.getD (Int.toNat b1.2) default).alcohol).lo)), .v (.int .i64 (((r5.1.getD (Int.toNat b1.2) default).alcohol).hi))], .v (.int .u32 by')] (.v (.int .i64 r6)), .rng .i64 (r6 * 10000)] S (by kernel_rfl) (by kernel_rfl) (by kernel_rfl) ⟨⟨enters_41, fun _ W _ _ => wormtublaw04_inner_ok (MSpan.mk (((r5.1.getD (Int.toNat b1.2) default).alcohol).lo) (((r5.1.getD (Int.toNat b1.2) default).alcohol).hi)) by' W r6 e7⟩, rngI64 g5, trivial⟩ ?_
                clear S; intro E a w S
                refine sym_seq lay_ok mixed [] [3, 4, 5, 6, 15, 20, 80, 81, 82, 22, 21, 23, 24] [6] (⟨[(3, .v (.int .i64 fore)), (4, .v (.int .i64 cut)), (5, .v (.int .i64 end')), (6, .v (.int .u32 by')), (15, .sl 1003), (20, .v (.int .i64 (b1.1 + ((r5.1.getD (Int.toNat b1.2) default).amount)))), (80, .sl 1004), (81, .v (.int .i64 ((r5.1.length : Nat) : Int))), (82, .v (.int .i64 b1.2)), (22, .own 6 0), (21, .v (.int .i64 b1.2)), (23, .v (.int .i64 (r6 * 10000))), (24, .v (.int .i64 8))], ⟨[(6, .blk 36 [.v (.int .i64 ((r5.1.getD (Int.toNat b1.2) default).amount)), .v (.int .i64 (((r5.1.getD (Int.toNat b1.2) default).alcohol).lo)), .v (.int .i64 (((r5.1.getD (Int.toNat b1.2) default).alcohol).hi))])], ((1004, ⟨r5.1.length, 3, fun i => [.int .i64 ((r5.1.getD i default).amount), .int .i64 (((r5.1.getD i default).alcohol).lo), .int .i64 (((r5.1.getD i default).alcohol).hi)]⟩) :: ((1003, ⟨r3.1.length, 1, fun i => [.int .i64 (r3.1.getD i default)]⟩) :: (wormtublaw04_StillKinds_R c amounts))), []⟩⟩) [] S (by kernel_rfl) (by kernel_rfl) (by kernel_rfl) trivial ?_
                clear S; intro E a w S
                refine wp_seq ?_
                obtain ⟨g6, h⟩ := grd_some h
                refine sym_seq lay_ok mixed [] [3, 4, 5, 6, 15, 20, 80, 81, 82, 22, 21, 23, 24, 113] [6] (⟨[(3, .v (.int .i64 fore)), (4, .v (.int .i64 cut)), (5, .v (.int .i64 end')), (6, .v (.int .u32 by')), (15, .sl 1003), (20, .v (.int .i64 (b1.1 + ((r5.1.getD (Int.toNat b1.2) default).amount)))), (80, .sl 1004), (81, .v (.int .i64 ((r5.1.length : Nat) : Int))), (82, .v (.int .i64 b1.2)), (22, .own 6 0), (21, .v (.int .i64 b1.2)), (23, .v (.int .i64 (r6 * 10000))), (24, .v (.int .i64 8)), (113, .v (.bool (decide ((cut * ((r5.1.getD (Int.toNat b1.2) default).amount)) ≤ (r6 * 10000)))))], ⟨[(6, .blk 36 [.v (.int .i64 ((r5.1.getD (Int.toNat b1.2) default).amount)), .v (.int .i64 (((r5.1.getD (Int.toNat b1.2) default).alcohol).lo)), .v (.int .i64 (((r5.1.getD (Int.toNat b1.2) default).alcohol).hi))])], ((1004, ⟨r5.1.length, 3, fun i => [.int .i64 ((r5.1.getD i default).amount), .int .i64 (((r5.1.getD i default).alcohol).lo), .int .i64 (((r5.1.getD i default).alcohol).hi)]⟩) :: ((1003, ⟨r3.1.length, 1, fun i => [.int .i64 (r3.1.getD i default)]⟩) :: (wormtublaw04_StillKinds_R c amounts))), []⟩⟩) [.rng .i64 (cut * ((r5.1.getD (Int.toNat b1.2) default).amount))] S (by kernel_rfl) (by kernel_rfl) (by kernel_rfl) ⟨rngI64 g6, trivial⟩ ?_
                clear S; intro E a w S
                obtain ⟨j1, e8, h⟩ := bind_some h
                refine sym_meet_last (b := decide ((cut * ((r5.1.getD (Int.toNat b1.2) default).amount)) ≤ (r6 * 10000))) (⟨[(3, .v (.int .i64 fore)), (4, .v (.int .i64 cut)), (5, .v (.int .i64 end')), (6, .v (.int .u32 by')), (15, .sl 1003), (20, .v (.int .i64 (b1.1 + ((r5.1.getD (Int.toNat b1.2) default).amount)))), (80, .sl 1004), (81, .v (.int .i64 ((r5.1.length : Nat) : Int))), (82, .v (.int .i64 b1.2)), (22, .own 6 0), (21, .v (.int .i64 b1.2)), (24, .v (.int .i64 j1))], ⟨[(6, .blk 36 [.v (.int .i64 ((r5.1.getD (Int.toNat b1.2) default).amount)), .v (.int .i64 (((r5.1.getD (Int.toNat b1.2) default).alcohol).lo)), .v (.int .i64 (((r5.1.getD (Int.toNat b1.2) default).alcohol).hi))])], ((1004, ⟨r5.1.length, 3, fun i => [.int .i64 ((r5.1.getD i default).amount), .int .i64 (((r5.1.getD i default).alcohol).lo), .int .i64 (((r5.1.getD i default).alcohol).hi)]⟩) :: ((1003, ⟨r3.1.length, 1, fun i => [.int .i64 (r3.1.getD i default)]⟩) :: (wormtublaw04_StillKinds_R c amounts))), []⟩⟩) S rfl (fun hb7 => ?_) (fun hb7 => ?_) ?_
                · clear h; have h := bif_t hb7 e8
                  refine sym_last lay_ok mixed [] [3, 4, 5, 6, 15, 20, 80, 81, 82, 22, 21, 24] [6] (⟨[(3, .v (.int .i64 fore)), (4, .v (.int .i64 cut)), (5, .v (.int .i64 end')), (6, .v (.int .u32 by')), (15, .sl 1003), (20, .v (.int .i64 (b1.1 + ((r5.1.getD (Int.toNat b1.2) default).amount)))), (80, .sl 1004), (81, .v (.int .i64 ((r5.1.length : Nat) : Int))), (82, .v (.int .i64 b1.2)), (22, .own 6 0), (21, .v (.int .i64 b1.2)), (24, .v (.int .i64 2))], ⟨[(6, .blk 36 [.v (.int .i64 ((r5.1.getD (Int.toNat b1.2) default).amount)), .v (.int .i64 (((r5.1.getD (Int.toNat b1.2) default).alcohol).lo)), .v (.int .i64 (((r5.1.getD (Int.toNat b1.2) default).alcohol).hi))])], ((1004, ⟨r5.1.length, 3, fun i => [.int .i64 ((r5.1.getD i default).amount), .int .i64 (((r5.1.getD i default).alcohol).lo), .int .i64 (((r5.1.getD i default).alcohol).hi)]⟩) :: ((1003, ⟨r3.1.length, 1, fun i => [.int .i64 (r3.1.getD i default)]⟩) :: (wormtublaw04_StillKinds_R c amounts))), []⟩⟩) [] S (by kernel_rfl) (by kernel_rfl) (by kernel_rfl) trivial ?_
                  clear S; intro E a w S
                  have hj := Option.some.inj h
                  subst hj
                  refine out_then_normal ?_
                  exact ⟨_, St.cast (P := Go.Proofs.Try.prog) [] [] [3, 4, 5, 6, 15, 20, 80, 81, 82, 22, 21, 24] [6] [1004, 1003, 0, 1, 2] _ [] (by kernel_rfl) trivial S⟩
                · clear h; have h := bif_f hb7 e8
                  obtain ⟨g7, h⟩ := grd_some h
                  refine sym_seq lay_ok mixed [] [3, 4, 5, 6, 15, 20, 80, 81, 82, 22, 21, 24, 119] [6] (⟨[(3, .v (.int .i64 fore)), (4, .v (.int .i64 cut)), (5, .v (.int .i64 end')), (6, .v (.int .u32 by')), (15, .sl 1003), (20, .v (.int .i64 (b1.1 + ((r5.1.getD (Int.toNat b1.2) default).amount)))), (80, .sl 1004), (81, .v (.int .i64 ((r5.1.length : Nat) : Int))), (82, .v (.int .i64 b1.2)), (22, .own 6 0), (21, .v (.int .i64 b1.2)), (24, .v (.int .i64 8)), (119, .v (.bool (decide ((end' * ((r5.1.getD (Int.toNat b1.2) default).amount)) ≤ (r6 * 10000)))))], ⟨[(6, .blk 36 [.v (.int .i64 ((r5.1.getD (Int.toNat b1.2) default).amount)), .v (.int .i64 (((r5.1.getD (Int.toNat b1.2) default).alcohol).lo)), .v (.int .i64 (((r5.1.getD (Int.toNat b1.2) default).alcohol).hi))])], ((1004, ⟨r5.1.length, 3, fun i => [.int .i64 ((r5.1.getD i default).amount), .int .i64 (((r5.1.getD i default).alcohol).lo), .int .i64 (((r5.1.getD i default).alcohol).hi)]⟩) :: ((1003, ⟨r3.1.length, 1, fun i => [.int .i64 (r3.1.getD i default)]⟩) :: (wormtublaw04_StillKinds_R c amounts))), []⟩⟩) [.rng .i64 (end' * ((r5.1.getD (Int.toNat b1.2) default).amount))] S (by kernel_rfl) (by kernel_rfl) (by kernel_rfl) ⟨rngI64 g7, trivial⟩ ?_
                  clear S; intro E a w S
                  refine sym_if_last (b := decide ((end' * ((r5.1.getD (Int.toNat b1.2) default).amount)) ≤ (r6 * 10000))) S rfl (fun hb8 => ?_) (fun hb8 => ?_)
                  · have h := bif_t hb8 h
                    refine sym_last lay_ok mixed [] [3, 4, 5, 6, 15, 20, 80, 81, 82, 22, 21, 24] [6] (⟨[(3, .v (.int .i64 fore)), (4, .v (.int .i64 cut)), (5, .v (.int .i64 end')), (6, .v (.int .u32 by')), (15, .sl 1003), (20, .v (.int .i64 (b1.1 + ((r5.1.getD (Int.toNat b1.2) default).amount)))), (80, .sl 1004), (81, .v (.int .i64 ((r5.1.length : Nat) : Int))), (82, .v (.int .i64 b1.2)), (22, .own 6 0), (21, .v (.int .i64 b1.2)), (24, .v (.int .i64 4))], ⟨[(6, .blk 36 [.v (.int .i64 ((r5.1.getD (Int.toNat b1.2) default).amount)), .v (.int .i64 (((r5.1.getD (Int.toNat b1.2) default).alcohol).lo)), .v (.int .i64 (((r5.1.getD (Int.toNat b1.2) default).alcohol).hi))])], ((1004, ⟨r5.1.length, 3, fun i => [.int .i64 ((r5.1.getD i default).amount), .int .i64 (((r5.1.getD i default).alcohol).lo), .int .i64 (((r5.1.getD i default).alcohol).hi)]⟩) :: ((1003, ⟨r3.1.length, 1, fun i => [.int .i64 (r3.1.getD i default)]⟩) :: (wormtublaw04_StillKinds_R c amounts))), []⟩⟩) [] S (by kernel_rfl) (by kernel_rfl) (by kernel_rfl) trivial ?_
                    clear S; intro E a w S
                    have hj := Option.some.inj h
                    subst hj
                    refine out_then_normal ?_
                    exact ⟨_, St.cast (P := Go.Proofs.Try.prog) [] [] [3, 4, 5, 6, 15, 20, 80, 81, 82, 22, 21, 24] [6] [1004, 1003, 0, 1, 2] _ [] (by kernel_rfl) trivial S⟩
                  · have h := bif_f hb8 h
                    refine wp_skip ?_
                    have hj := Option.some.inj h
                    subst hj
                    refine out_then_normal ?_
                    exact ⟨_, St.cast (P := Go.Proofs.Try.prog) [] [] [3, 4, 5, 6, 15, 20, 80, 81, 82, 22, 21, 24] [6] [1004, 1003, 0, 1, 2] _ [] (by kernel_rfl) trivial S⟩
                clear S; intro E a w S
                refine out_then_normal ?_
                refine wp_seq ?_
                obtain ⟨⟨g8, g9, g10⟩, h⟩ := grd_some h
                refine sym_seq lay_ok mixed [(8, { og := true }), (9, { og := true }), (10, { og := true }), (11, { og := true }), (12, { og := true }), (13, { pk := true }), (15, { og := true }), (16, { og := true }), (17, { og := true }), (18, { og := true }), (19, { og := true }), (20, { pk := true }), (22, { og := true }), (23, { og := true }), (24, { og := true }), (25, { og := true }), (26, { og := true }), (27, { og := true }), (28, { pk := true })] [3, 4, 5, 6, 15, 20, 80, 81, 82, 22, 21, 148] [6] (⟨[(3, .v (.int .i64 fore)), (4, .v (.int .i64 cut)), (5, .v (.int .i64 end')), (6, .v (.int .u32 by')), (15, .sl 1003), (20, .v (.int .i64 (b1.1 + ((r5.1.getD (Int.toNat b1.2) default).amount)))), (80, .sl 1004), (81, .v (.int .i64 ((r5.1.length : Nat) : Int))), (82, .v (.int .i64 b1.2)), (22, .own 6 0), (21, .v (.int .i64 b1.2)), (148, .v (.bool (((((bits .and .i64 (r3.1.getD (Int.toNat b1.2) default) j1) == 0) || decide ((r3.1.getD (Int.toNat b1.2) default) < 1)) || decide (14 < (r3.1.getD (Int.toNat b1.2) default))) || ((bits .and .i64 (r3.1.getD (Int.toNat b1.2) default) 1) != 0))))], ⟨[(6, .blk 36 [.v (.int .i64 ((r5.1.getD (Int.toNat b1.2) default).amount)), .v (.int .i64 (((r5.1.getD (Int.toNat b1.2) default).alcohol).lo)), .v (.int .i64 (((r5.1.getD (Int.toNat b1.2) default).alcohol).hi))])], ((1004, ⟨r5.1.length, 3, fun i => [.int .i64 ((r5.1.getD i default).amount), .int .i64 (((r5.1.getD i default).alcohol).lo), .int .i64 (((r5.1.getD i default).alcohol).hi)]⟩) :: ((1003, ⟨r3.1.length, 1, fun i => [.int .i64 (r3.1.getD i default)]⟩) :: (wormtublaw04_StillKinds_R c amounts))), []⟩⟩) [.idx b1.2 r3.1.length, .idx b1.2 r3.1.length, .imp (!((bits .and .i64 (r3.1.getD (Int.toNat b1.2) default) j1) == 0)) (!((bits .and .i64 (r3.1.getD (Int.toNat b1.2) default) j1) == 0)), .imp (!((bits .and .i64 (r3.1.getD (Int.toNat b1.2) default) j1) == 0)) (!((bits .and .i64 (r3.1.getD (Int.toNat b1.2) default) j1) == 0)), .when (!((bits .and .i64 (r3.1.getD (Int.toNat b1.2) default) j1) == 0)) (.idx b1.2 r3.1.length), .imp (!((bits .and .i64 (r3.1.getD (Int.toNat b1.2) default) j1) == 0)) (!((bits .and .i64 (r3.1.getD (Int.toNat b1.2) default) j1) == 0)), .when (!((bits .and .i64 (r3.1.getD (Int.toNat b1.2) default) j1) == 0)) (.idx b1.2 r3.1.length), .imp (!((bits .and .i64 (r3.1.getD (Int.toNat b1.2) default) j1) == 0)) (!((bits .and .i64 (r3.1.getD (Int.toNat b1.2) default) j1) == 0)), .imp (!((bits .and .i64 (r3.1.getD (Int.toNat b1.2) default) j1) == 0)) (!((bits .and .i64 (r3.1.getD (Int.toNat b1.2) default) j1) == 0)), .imp (!(((bits .and .i64 (r3.1.getD (Int.toNat b1.2) default) j1) == 0) || decide ((r3.1.getD (Int.toNat b1.2) default) < 1))) (!(((bits .and .i64 (r3.1.getD (Int.toNat b1.2) default) j1) == 0) || decide ((r3.1.getD (Int.toNat b1.2) default) < 1))), .imp (!(((bits .and .i64 (r3.1.getD (Int.toNat b1.2) default) j1) == 0) || decide ((r3.1.getD (Int.toNat b1.2) default) < 1))) (!(((bits .and .i64 (r3.1.getD (Int.toNat b1.2) default) j1) == 0) || decide ((r3.1.getD (Int.toNat b1.2) default) < 1))), .when (!(((bits .and .i64 (r3.1.getD (Int.toNat b1.2) default) j1) == 0) || decide ((r3.1.getD (Int.toNat b1.2) default) < 1))) (.idx b1.2 r3.1.length), .imp (!(((bits .and .i64 (r3.1.getD (Int.toNat b1.2) default) j1) == 0) || decide ((r3.1.getD (Int.toNat b1.2) default) < 1))) (!(((bits .and .i64 (r3.1.getD (Int.toNat b1.2) default) j1) == 0) || decide ((r3.1.getD (Int.toNat b1.2) default) < 1))), .when (!(((bits .and .i64 (r3.1.getD (Int.toNat b1.2) default) j1) == 0) || decide ((r3.1.getD (Int.toNat b1.2) default) < 1))) (.idx b1.2 r3.1.length), .imp (!(((bits .and .i64 (r3.1.getD (Int.toNat b1.2) default) j1) == 0) || decide ((r3.1.getD (Int.toNat b1.2) default) < 1))) (!(((bits .and .i64 (r3.1.getD (Int.toNat b1.2) default) j1) == 0) || decide ((r3.1.getD (Int.toNat b1.2) default) < 1))), .imp (!(((bits .and .i64 (r3.1.getD (Int.toNat b1.2) default) j1) == 0) || decide ((r3.1.getD (Int.toNat b1.2) default) < 1))) (!(((bits .and .i64 (r3.1.getD (Int.toNat b1.2) default) j1) == 0) || decide ((r3.1.getD (Int.toNat b1.2) default) < 1))), .imp (!((((bits .and .i64 (r3.1.getD (Int.toNat b1.2) default) j1) == 0) || decide ((r3.1.getD (Int.toNat b1.2) default) < 1)) || decide (14 < (r3.1.getD (Int.toNat b1.2) default)))) (!((((bits .and .i64 (r3.1.getD (Int.toNat b1.2) default) j1) == 0) || decide ((r3.1.getD (Int.toNat b1.2) default) < 1)) || decide (14 < (r3.1.getD (Int.toNat b1.2) default)))), .imp (!((((bits .and .i64 (r3.1.getD (Int.toNat b1.2) default) j1) == 0) || decide ((r3.1.getD (Int.toNat b1.2) default) < 1)) || decide (14 < (r3.1.getD (Int.toNat b1.2) default)))) (!((((bits .and .i64 (r3.1.getD (Int.toNat b1.2) default) j1) == 0) || decide ((r3.1.getD (Int.toNat b1.2) default) < 1)) || decide (14 < (r3.1.getD (Int.toNat b1.2) default)))), .when (!((((bits .and .i64 (r3.1.getD (Int.toNat b1.2) default) j1) == 0) || decide ((r3.1.getD (Int.toNat b1.2) default) < 1)) || decide (14 < (r3.1.getD (Int.toNat b1.2) default)))) (.idx b1.2 r3.1.length), .imp (!((((bits .and .i64 (r3.1.getD (Int.toNat b1.2) default) j1) == 0) || decide ((r3.1.getD (Int.toNat b1.2) default) < 1)) || decide (14 < (r3.1.getD (Int.toNat b1.2) default)))) (!((((bits .and .i64 (r3.1.getD (Int.toNat b1.2) default) j1) == 0) || decide ((r3.1.getD (Int.toNat b1.2) default) < 1)) || decide (14 < (r3.1.getD (Int.toNat b1.2) default)))), .when (!((((bits .and .i64 (r3.1.getD (Int.toNat b1.2) default) j1) == 0) || decide ((r3.1.getD (Int.toNat b1.2) default) < 1)) || decide (14 < (r3.1.getD (Int.toNat b1.2) default)))) (.idx b1.2 r3.1.length), .imp (!((((bits .and .i64 (r3.1.getD (Int.toNat b1.2) default) j1) == 0) || decide ((r3.1.getD (Int.toNat b1.2) default) < 1)) || decide (14 < (r3.1.getD (Int.toNat b1.2) default)))) (!((((bits .and .i64 (r3.1.getD (Int.toNat b1.2) default) j1) == 0) || decide ((r3.1.getD (Int.toNat b1.2) default) < 1)) || decide (14 < (r3.1.getD (Int.toNat b1.2) default)))), .imp (!((((bits .and .i64 (r3.1.getD (Int.toNat b1.2) default) j1) == 0) || decide ((r3.1.getD (Int.toNat b1.2) default) < 1)) || decide (14 < (r3.1.getD (Int.toNat b1.2) default)))) (!((((bits .and .i64 (r3.1.getD (Int.toNat b1.2) default) j1) == 0) || decide ((r3.1.getD (Int.toNat b1.2) default) < 1)) || decide (14 < (r3.1.getD (Int.toNat b1.2) default)))), .imp (!((((bits .and .i64 (r3.1.getD (Int.toNat b1.2) default) j1) == 0) || decide ((r3.1.getD (Int.toNat b1.2) default) < 1)) || decide (14 < (r3.1.getD (Int.toNat b1.2) default)))) (!((((bits .and .i64 (r3.1.getD (Int.toNat b1.2) default) j1) == 0) || decide ((r3.1.getD (Int.toNat b1.2) default) < 1)) || decide (14 < (r3.1.getD (Int.toNat b1.2) default))))] S (by kernel_rfl) (by kernel_rfl) (by kernel_rfl) (by exact ⟨g3, g3, fun h => h, fun h => h, fun hW => (g8 hW), fun h => h, fun hW => (g8 hW), fun h => h, fun h => h, fun h => h, fun h => h, fun hW => (g9 hW), fun h => h, fun hW => (g9 hW), fun h => h, fun h => h, fun h => h, fun h => h, fun hW => (g10 hW), fun h => h, fun hW => (g10 hW), fun h => h, fun h => h, fun h => h, trivial⟩) ?_
                clear S; intro E a w S
                refine sym_if_last (b := (((((bits .and .i64 (r3.1.getD (Int.toNat b1.2) default) j1) == 0) || decide ((r3.1.getD (Int.toNat b1.2) default) < 1)) || decide (14 < (r3.1.getD (Int.toNat b1.2) default))) || ((bits .and .i64 (r3.1.getD (Int.toNat b1.2) default) 1) != 0))) S rfl (fun hb9 => ?_) (fun hb9 => ?_)
                · have h := bif_t hb9 h
                  refine sym_seq lay_ok mixed [] [14] [] (⟨[(14, .v (.bool false))], ⟨[], ((1004, ⟨r5.1.length, 3, fun i => [.int .i64 ((r5.1.getD i default).amount), .int .i64 (((r5.1.getD i default).alcohol).lo), .int .i64 (((r5.1.getD i default).alcohol).hi)]⟩) :: ((1003, ⟨r3.1.length, 1, fun i => [.int .i64 (r3.1.getD i default)]⟩) :: (wormtublaw04_StillKinds_R c amounts))), []⟩⟩) [] S (by kernel_rfl) (by kernel_rfl) (by kernel_rfl) trivial ?_
                  clear S; intro E a w S
                  refine wp_ret ?_
                  refine out_then_ret ?_
                  refine out_block_ret ?_
                  refine out_then_ret ?_
                  refine out_then_ret ?_
                  refine out_block_ret ?_
                  refine out_then_ret ?_
                  refine out_then_ret ?_
                  have hr := Option.some.inj h
                  subst hr
                  have hr := Option.some.inj hp1
                  subst hr
                  exact sym_ret lay_ok [.v (.bool false)] (by kernel_rfl) rfl S ⟨rfl, S.below rfl⟩
                · have h := bif_f hb9 h
                  refine wp_skip ?_
                  refine out_then_normal ?_
                  obtain ⟨⟨g11, g12, g13⟩, h⟩ := grd_some h
                  refine sym_seq lay_ok mixed [(10, { og := true }), (11, { og := true }), (12, { og := true }), (13, { og := true }), (14, { og := true }), (15, { pk := true })] [3, 4, 5, 6, 15, 20, 80, 81, 82, 164] [] (⟨[(3, .v (.int .i64 fore)), (4, .v (.int .i64 cut)), (5, .v (.int .i64 end')), (6, .v (.int .u32 by')), (15, .sl 1003), (20, .v (.int .i64 (b1.1 + ((r5.1.getD (Int.toNat b1.2) default).amount)))), (80, .sl 1004), (81, .v (.int .i64 ((r5.1.length : Nat) : Int))), (82, .v (.int .i64 b1.2)), (164, .v (.bool (decide ((cut * ((r5.1.getD (Int.toNat b1.2) default).amount)) ≤ ((((r5.1.getD (Int.toNat b1.2) default).alcohol).lo) * 10000)) && ((r3.1.getD (Int.toNat b1.2) default) != 2))))], ⟨[], ((1004, ⟨r5.1.length, 3, fun i => [.int .i64 ((r5.1.getD i default).amount), .int .i64 (((r5.1.getD i default).alcohol).lo), .int .i64 (((r5.1.getD i default).alcohol).hi)]⟩) :: ((1003, ⟨r3.1.length, 1, fun i => [.int .i64 (r3.1.getD i default)]⟩) :: (wormtublaw04_StillKinds_R c amounts))), []⟩⟩) [.rng .i64 ((((r5.1.getD (Int.toNat b1.2) default).alcohol).lo) * 10000), .rng .i64 (cut * ((r5.1.getD (Int.toNat b1.2) default).amount)), .imp (decide ((cut * ((r5.1.getD (Int.toNat b1.2) default).amount)) ≤ ((((r5.1.getD (Int.toNat b1.2) default).alcohol).lo) * 10000))) (decide ((cut * ((r5.1.getD (Int.toNat b1.2) default).amount)) ≤ ((((r5.1.getD (Int.toNat b1.2) default).alcohol).lo) * 10000))), .imp (decide ((cut * ((r5.1.getD (Int.toNat b1.2) default).amount)) ≤ ((((r5.1.getD (Int.toNat b1.2) default).alcohol).lo) * 10000))) (decide ((cut * ((r5.1.getD (Int.toNat b1.2) default).amount)) ≤ ((((r5.1.getD (Int.toNat b1.2) default).alcohol).lo) * 10000))), .when (decide ((cut * ((r5.1.getD (Int.toNat b1.2) default).amount)) ≤ ((((r5.1.getD (Int.toNat b1.2) default).alcohol).lo) * 10000))) (.idx b1.2 r3.1.length), .imp (decide ((cut * ((r5.1.getD (Int.toNat b1.2) default).amount)) ≤ ((((r5.1.getD (Int.toNat b1.2) default).alcohol).lo) * 10000))) (decide ((cut * ((r5.1.getD (Int.toNat b1.2) default).amount)) ≤ ((((r5.1.getD (Int.toNat b1.2) default).alcohol).lo) * 10000))), .when (decide ((cut * ((r5.1.getD (Int.toNat b1.2) default).amount)) ≤ ((((r5.1.getD (Int.toNat b1.2) default).alcohol).lo) * 10000))) (.idx b1.2 r3.1.length), .imp (decide ((cut * ((r5.1.getD (Int.toNat b1.2) default).amount)) ≤ ((((r5.1.getD (Int.toNat b1.2) default).alcohol).lo) * 10000))) (decide ((cut * ((r5.1.getD (Int.toNat b1.2) default).amount)) ≤ ((((r5.1.getD (Int.toNat b1.2) default).alcohol).lo) * 10000))), .imp (decide ((cut * ((r5.1.getD (Int.toNat b1.2) default).amount)) ≤ ((((r5.1.getD (Int.toNat b1.2) default).alcohol).lo) * 10000))) (decide ((cut * ((r5.1.getD (Int.toNat b1.2) default).amount)) ≤ ((((r5.1.getD (Int.toNat b1.2) default).alcohol).lo) * 10000)))] S (by kernel_rfl) (by kernel_rfl) (by kernel_rfl) ⟨rngI64 g11, rngI64 g12, fun h => h, fun h => h, fun hW => (g13 hW), fun h => h, fun hW => (g13 hW), fun h => h, fun h => h, trivial⟩ ?_
                  clear S; intro E a w S
                  refine sym_if_last (b := (decide ((cut * ((r5.1.getD (Int.toNat b1.2) default).amount)) ≤ ((((r5.1.getD (Int.toNat b1.2) default).alcohol).lo) * 10000)) && ((r3.1.getD (Int.toNat b1.2) default) != 2))) S rfl (fun hb10 => ?_) (fun hb10 => ?_)
                  · have h := bif_t hb10 h
                    refine sym_seq lay_ok mixed [] [14] [] (⟨[(14, .v (.bool false))], ⟨[], ((1004, ⟨r5.1.length, 3, fun i => [.int .i64 ((r5.1.getD i default).amount), .int .i64 (((r5.1.getD i default).alcohol).lo), .int .i64 (((r5.1.getD i default).alcohol).hi)]⟩) :: ((1003, ⟨r3.1.length, 1, fun i => [.int .i64 (r3.1.getD i default)]⟩) :: (wormtublaw04_StillKinds_R c amounts))), []⟩⟩) [] S (by kernel_rfl) (by kernel_rfl) (by kernel_rfl) trivial ?_
                    clear S; intro E a w S
                    refine wp_ret ?_
                    refine out_block_ret ?_
                    refine out_then_ret ?_
                    refine out_then_ret ?_
                    refine out_block_ret ?_
                    refine out_then_ret ?_
                    refine out_then_ret ?_
                    have hr := Option.some.inj h
                    subst hr
                    have hr := Option.some.inj hp1
                    subst hr
                    exact sym_ret lay_ok [.v (.bool false)] (by kernel_rfl) rfl S ⟨rfl, S.below rfl⟩
                  · have h := bif_f hb10 h
                    refine wp_skip ?_
                    refine out_block_normal ?_
                    refine out_then_normal ?_
                    obtain ⟨g14, h⟩ := grd_some h
                    refine sym_last lay_ok mixed [] [3, 4, 5, 6, 15, 20, 80, 81, 82] [] (⟨[(3, .v (.int .i64 fore)), (4, .v (.int .i64 cut)), (5, .v (.int .i64 end')), (6, .v (.int .u32 by')), (15, .sl 1003), (20, .v (.int .i64 (b1.1 + ((r5.1.getD (Int.toNat b1.2) default).amount)))), (80, .sl 1004), (81, .v (.int .i64 ((r5.1.length : Nat) : Int))), (82, .v (.int .i64 (b1.2 + 1)))], ⟨[], ((1004, ⟨r5.1.length, 3, fun i => [.int .i64 ((r5.1.getD i default).amount), .int .i64 (((r5.1.getD i default).alcohol).lo), .int .i64 (((r5.1.getD i default).alcohol).hi)]⟩) :: ((1003, ⟨r3.1.length, 1, fun i => [.int .i64 (r3.1.getD i default)]⟩) :: (wormtublaw04_StillKinds_R c amounts))), []⟩⟩) [.rng .i64 (b1.2 + 1)] S (by kernel_rfl) (by kernel_rfl) (by kernel_rfl) ⟨rngI64 g14, trivial⟩ ?_
                    clear S; intro E a w S
                    refine out_then_normal ?_
                    exact ih ((b1.1 + ((r5.1.getD (Int.toNat b1.2) default).amount)), (b1.2 + 1)) _ _ _ h (St.cast (P := Go.Proofs.Try.prog) [] [] [3, 4, 5, 6, 15, 20, 80, 81, 82] [] [1004, 1003, 0, 1, 2] _ [] (by kernel_rfl) trivial S)
          · have h := bif_f hb4 h
            refine wp_exit ?_
            refine out_then_exit ?_
            refine out_then_exit ?_
            refine out_block_here ?_
            refine out_then_normal ?_
            have hr := Option.some.inj h
            subst hr
            exact ⟨_, (), hp1, St.cast (P := Go.Proofs.Try.prog) [] [] [] [] [1004, 1003, 0, 1, 2] _ [] (by kernel_rfl) trivial S⟩
        clear e6 S
        rintro a w ⟨E, x1, h, S⟩
        rw [wormtublaw04_StillKinds_k1] at h
        refine out_then_normal ?_
        obtain ⟨r7, e9, h⟩ := bind_some h
        refine sym_seq lay_ok mixed [(0, { res := .v (.bool r7) })] [14] [] (⟨[(14, .v (.bool r7))], ⟨[], ((1004, ⟨r5.1.length, 3, fun i => [.int .i64 ((r5.1.getD i default).amount), .int .i64 (((r5.1.getD i default).alcohol).lo), .int .i64 (((r5.1.getD i default).alcohol).hi)]⟩) :: ((1003, ⟨r3.1.length, 1, fun i => [.int .i64 (r3.1.getD i default)]⟩) :: (wormtublaw04_StillKinds_R c amounts))), []⟩⟩) [.call ⟨[], ((1004, ⟨r5.1.length, 3, fun i => [.int .i64 ((r5.1.getD i default).amount), .int .i64 (((r5.1.getD i default).alcohol).lo), .int .i64 (((r5.1.getD i default).alcohol).hi)]⟩) :: ((1003, ⟨r3.1.length, 1, fun i => [.int .i64 (r3.1.getD i default)]⟩) :: (wormtublaw04_StillKinds_R c amounts))), []⟩ 17 [] (.v (.bool r7))] S (by kernel_rfl) (by kernel_rfl) (by kernel_rfl) ⟨⟨enters_17, fun _ W _ _ => wormtublaw04_alive_ok fuel W r7 e9⟩, trivial⟩ ?_
        clear S; intro E a w S
        refine wp_ret ?_
        have h := Option.some.inj h
        subst h
        exact sym_ret lay_ok [.v (.bool r7)] (by kernel_rfl) rfl S ⟨rfl, S.below rfl⟩
end Go.Proofs.Ytnfahoomoelmcaa
