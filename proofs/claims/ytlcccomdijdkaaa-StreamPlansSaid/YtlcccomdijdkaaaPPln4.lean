import Derived.Test.YtlcccomdijdkaaaPPln3
namespace Go.Proofs.Ytlcccomdijdkaaa
open Go.RowKit Go.Proofs.Try
structure MSpan where
  lo : Int
  hi : Int
  deriving DecidableEq, Inhabited
structure MWater where
  flow : MSpan
  warm : MSpan
  deriving DecidableEq, Inhabited
structure MJoin where
  flow : MSpan
  warm : MSpan
  deriving DecidableEq, Inhabited
structure MDraw where
  flow : MSpan
  deriving DecidableEq, Inhabited
structure MAdd where
  heat : MSpan
  deriving DecidableEq, Inhabited
structure MAir where
  warm : MSpan
  share : MSpan
  deriving DecidableEq, Inhabited
structure MPoint where
  kind : Int
  flow : MSpan
  warm : MSpan
  heat : MSpan
  share : MSpan
  deriving DecidableEq, Inhabited
structure MBurner where
  ready : Int
  due : Int
  hours : Int
  heat : Int
  deriving DecidableEq, Inhabited
structure MFraction where
  num : Int
  den : Int
  deriving DecidableEq, Inhabited
abbrev pZ (x : MPoint) : List Value := [.int .i64 x.kind, .int .i64 x.flow.lo, .int .i64 x.flow.hi, .int .i64 x.warm.lo, .int .i64 x.warm.hi, .int .i64 x.heat.lo, .int .i64 x.heat.hi, .int .i64 x.share.lo, .int .i64 x.share.hi]
abbrev wZ (x : MWater) : List Value := [.int .i64 x.flow.lo, .int .i64 x.flow.hi, .int .i64 x.warm.lo, .int .i64 x.warm.hi]
abbrev bZ (x : MBurner) : List Value := [.int .i64 x.ready, .int .i64 x.due, .int .i64 x.hours, .int .i64 x.heat]
abbrev pQZ (l : List MPoint) : Q := ⟨l.length, 9, fun i => pZ (l.getD i default)⟩
abbrev wQZ (l : List MWater) : Q := ⟨l.length, 4, fun i => wZ (l.getD i default)⟩
abbrev bQZ (l : List MBurner) : Q := ⟨l.length, 4, fun i => bZ (l.getD i default)⟩
abbrev iQZ (l : List Int) : Q := ⟨l.length, 1, fun i => [.int .i64 (l.getD i default)]⟩
abbrev iv (n : Int) : SV := .v (.int .i64 n)
abbrev ob (b : Bool) : SV := .v (.bool b)

def stream_within (s : MSpan) (least : Int) (most : Int) : Option Bool :=
some ((decide (least ≤ s.lo) && decide (s.lo ≤ s.hi)) && decide (s.hi ≤ most))
set_option maxRecDepth 100000 in
set_option maxHeartbeats 4000000 in
theorem stream_within_ok (s : MSpan) (least : Int) (most : Int) (W : World)  (res : Bool) (h : stream_within s least most = some res) :
    Calls Go.Proofs.Try.prog 53 #[.agg #[.int .i64 s.lo, .int .i64 s.hi], .int .i64 least, .int .i64 most] W fun e w' => e = .returned (.bool res) ∧ Below W.heap.size W w' := by
  refine sym_call (f := 53) (fn := Go.Proofs.Try.f53) (c := Go.Proofs.Try.f53.body.get rfl) Go.Proofs.Try.func53 rfl [.agg [iv (s.lo), iv (s.hi)], iv (least), iv (most)] [] [] (envOf []) allR (fun _ _ => rfl) (by kernel_rfl) (envOf_one trivial) trivial (AllRR.all _ _) trivial fun E a w S => ?_
  rw [stream_within] at h
  refine sym_seq lay_ok mixed [(0, { g := 0 })] [1, 2, 3] [0] (⟨[(1, iv (least)), (2, iv (most)), (3, .own 0 0)], ⟨[(0, .blk 23 [iv (s.lo), iv (s.hi)])], [], []⟩⟩) [] S (by kernel_rfl) (by kernel_rfl) (by kernel_rfl) trivial ?_
  clear S; intro E a w S
  refine sym_seq lay_ok mixed [(5, { og := true }), (6, { og := true }), (7, { og := true }), (8, { og := true }), (9, { og := true }), (10, { pk := true }), (12, { og := true }), (13, { og := true }), (14, { og := true }), (15, { og := true }), (16, { pk := true })] [6] [] (⟨[(6, .v (.bool ((decide (least ≤ s.lo) && decide (s.lo ≤ s.hi)) && decide (s.hi ≤ most))))], ⟨[], [], []⟩⟩) [.imp (decide (least ≤ s.lo)) (decide (least ≤ s.lo)), .imp (decide (least ≤ s.lo)) (decide (least ≤ s.lo)), .imp (decide (least ≤ s.lo)) (decide (least ≤ s.lo)), .imp (decide (least ≤ s.lo)) (decide (least ≤ s.lo)), .imp (decide (least ≤ s.lo)) (decide (least ≤ s.lo)), .imp (decide (least ≤ s.lo) && decide (s.lo ≤ s.hi)) (decide (least ≤ s.lo) && decide (s.lo ≤ s.hi)), .imp (decide (least ≤ s.lo) && decide (s.lo ≤ s.hi)) (decide (least ≤ s.lo) && decide (s.lo ≤ s.hi)), .imp (decide (least ≤ s.lo) && decide (s.lo ≤ s.hi)) (decide (least ≤ s.lo) && decide (s.lo ≤ s.hi)), .imp (decide (least ≤ s.lo) && decide (s.lo ≤ s.hi)) (decide (least ≤ s.lo) && decide (s.lo ≤ s.hi))] S (by kernel_rfl) (by kernel_rfl) (by kernel_rfl) ⟨fun h => h, fun h => h, fun h => h, fun h => h, fun h => h, fun h => h, fun h => h, fun h => h, fun h => h, trivial⟩ ?_
  clear S; intro E a w S
  refine wp_ret ?_
  have h := Option.some.inj h
  subst h
  exact sym_ret lay_ok [.v (.bool ((decide (least ≤ s.lo) && decide (s.lo ≤ s.hi)) && decide (s.hi ≤ most)))] (by kernel_rfl) rfl S ⟨rfl, S.below rfl⟩
def stream_validWater (w0 : MWater) : Option Bool :=
(stream_within (MSpan.mk w0.flow.lo w0.flow.hi) 1 1073741824).bind fun (r1 : Bool) =>
((bif r1 then stream_within (MSpan.mk w0.warm.lo w0.warm.hi) 0 100000 else some default)).bind fun (r2 : Bool) =>
some (r1 && r2)
set_option maxRecDepth 100000 in
set_option maxHeartbeats 4000000 in
theorem stream_validWater_ok (w0 : MWater) (W : World)  (res : Bool) (h : stream_validWater w0 = some res) :
    Calls Go.Proofs.Try.prog 34 #[.agg #[.int .i64 w0.flow.lo, .int .i64 w0.flow.hi, .int .i64 w0.warm.lo, .int .i64 w0.warm.hi]] W fun e w' => e = .returned (.bool res) ∧ Below W.heap.size W w' := by
  refine sym_call (f := 34) (fn := Go.Proofs.Try.f34) (c := Go.Proofs.Try.f34.body.get rfl) Go.Proofs.Try.func34 rfl [.agg [iv (w0.flow.lo), iv (w0.flow.hi), iv (w0.warm.lo), iv (w0.warm.hi)]] [] [] (envOf []) allR (fun _ _ => rfl) (by kernel_rfl) (envOf_one trivial) trivial (AllRR.all _ _) trivial fun E a w S => ?_
  rw [stream_validWater] at h
  refine sym_seq lay_ok mixed [(0, { g := 0 })] [1] [0] (⟨[(1, .own 0 0)], ⟨[(0, .blk 25 [iv (w0.flow.lo), iv (w0.flow.hi), iv (w0.warm.lo), iv (w0.warm.hi)])], [], []⟩⟩) [] S (by kernel_rfl) (by kernel_rfl) (by kernel_rfl) trivial ?_
  clear S; intro E a w S
  obtain ⟨r1, e1, h⟩ := bind_some h
  obtain ⟨r2, e2, h⟩ := bind_some h
  refine sym_seq lay_ok mixed [(2, { res := .v (.bool r1) }), (4, { og := true }), (5, { og := true }), (6, { og := true, res := .v (.bool r2) }), (7, { pk := true })] [2] [] (⟨[(2, .v (.bool (r1 && r2)))], ⟨[], [], []⟩⟩) [.call ⟨[], [], []⟩ 53 [.agg [iv (w0.flow.lo), iv (w0.flow.hi)], iv (1), iv (1073741824)] (.v (.bool r1)), .imp r1 r1, .imp r1 r1, .when r1 (.call ⟨[], [], []⟩ 53 [.agg [iv (w0.warm.lo), iv (w0.warm.hi)], iv (0), iv (100000)] (.v (.bool r2))), .imp r1 r1] S (by kernel_rfl) (by kernel_rfl) (by kernel_rfl) ⟨⟨enters_53, fun _ W _ hm => stream_within_ok (MSpan.mk w0.flow.lo w0.flow.hi) 1 1073741824 W r1 e1⟩, fun h => h, fun h => h, fun hW => ⟨enters_53, fun _ W _ hm => stream_within_ok (MSpan.mk w0.warm.lo w0.warm.hi) 0 100000 W r2 (bif_t hW e2)⟩, fun h => h, trivial⟩ ?_
  clear S; intro E a w S
  refine wp_ret ?_
  have h := Option.some.inj h
  subst h
  exact sym_ret lay_ok [.v (.bool (r1 && r2))] (by kernel_rfl) rfl S ⟨rfl, S.below rfl⟩
def stream_validLimit (limit : Int) : Option Bool :=
some (decide (0 ≤ limit) && decide (limit ≤ 100000))
set_option maxRecDepth 100000 in
set_option maxHeartbeats 4000000 in
theorem stream_validLimit_ok (limit : Int) (W : World)  (res : Bool) (h : stream_validLimit limit = some res) :
    Calls Go.Proofs.Try.prog 38 #[.int .i64 limit] W fun e w' => e = .returned (.bool res) ∧ Below W.heap.size W w' := by
  refine sym_call (f := 38) (fn := Go.Proofs.Try.f38) (c := Go.Proofs.Try.f38.body.get rfl) Go.Proofs.Try.func38 rfl [iv (limit)] [] [] (envOf []) allR (fun _ _ => rfl) (by kernel_rfl) (envOf_one trivial) trivial (AllRR.all _ _) trivial fun E a w S => ?_
  rw [stream_validLimit] at h
  refine sym_seq lay_ok mixed [] [0] [] (⟨[(0, iv (limit))], ⟨[], [], []⟩⟩) [] S (by kernel_rfl) (by kernel_rfl) (by kernel_rfl) trivial ?_
  clear S; intro E a w S
  refine sym_seq lay_ok mixed [(3, { og := true }), (4, { og := true }), (5, { pk := true })] [2] [] (⟨[(2, .v (.bool (decide (0 ≤ limit) && decide (limit ≤ 100000))))], ⟨[], [], []⟩⟩) [.imp (decide (0 ≤ limit)) (decide (0 ≤ limit)), .imp (decide (0 ≤ limit)) (decide (0 ≤ limit))] S (by kernel_rfl) (by kernel_rfl) (by kernel_rfl) ⟨fun h => h, fun h => h, trivial⟩ ?_
  clear S; intro E a w S
  refine wp_ret ?_
  have h := Option.some.inj h
  subst h
  exact sym_ret lay_ok [.v (.bool (decide (0 ≤ limit) && decide (limit ≤ 100000)))] (by kernel_rfl) rfl S ⟨rfl, S.below rfl⟩
def stream_join_valid (j : MJoin) : Option Bool :=
(stream_within (MSpan.mk j.flow.lo j.flow.hi) 1 1073741824).bind fun (r1 : Bool) =>
((bif r1 then stream_within (MSpan.mk j.warm.lo j.warm.hi) 0 100000 else some default)).bind fun (r2 : Bool) =>
some (r1 && r2)
set_option maxRecDepth 100000 in
set_option maxHeartbeats 4000000 in
theorem stream_join_valid_ok (j : MJoin) (W : World)  (res : Bool) (h : stream_join_valid j = some res) :
    Calls Go.Proofs.Try.prog 86 #[.agg #[.int .i64 j.flow.lo, .int .i64 j.flow.hi, .int .i64 j.warm.lo, .int .i64 j.warm.hi]] W fun e w' => e = .returned (.bool res) ∧ Below W.heap.size W w' := by
  refine sym_call (f := 86) (fn := Go.Proofs.Try.f86) (c := Go.Proofs.Try.f86.body.get rfl) Go.Proofs.Try.func86 rfl [.agg [iv (j.flow.lo), iv (j.flow.hi), iv (j.warm.lo), iv (j.warm.hi)]] [] [] (envOf []) allR (fun _ _ => rfl) (by kernel_rfl) (envOf_one trivial) trivial (AllRR.all _ _) trivial fun E a w S => ?_
  rw [stream_join_valid] at h
  refine sym_seq lay_ok mixed [(0, { g := 0 })] [1] [0] (⟨[(1, .own 0 0)], ⟨[(0, .blk 114 [iv (j.flow.lo), iv (j.flow.hi), iv (j.warm.lo), iv (j.warm.hi)])], [], []⟩⟩) [] S (by kernel_rfl) (by kernel_rfl) (by kernel_rfl) trivial ?_
  clear S; intro E a w S
  obtain ⟨r1, e1, h⟩ := bind_some h
  obtain ⟨r2, e2, h⟩ := bind_some h
  refine sym_seq lay_ok mixed [(2, { res := .v (.bool r1) }), (4, { og := true }), (5, { og := true }), (6, { og := true, res := .v (.bool r2) }), (7, { pk := true })] [2] [] (⟨[(2, .v (.bool (r1 && r2)))], ⟨[], [], []⟩⟩) [.call ⟨[], [], []⟩ 53 [.agg [iv (j.flow.lo), iv (j.flow.hi)], iv (1), iv (1073741824)] (.v (.bool r1)), .imp r1 r1, .imp r1 r1, .when r1 (.call ⟨[], [], []⟩ 53 [.agg [iv (j.warm.lo), iv (j.warm.hi)], iv (0), iv (100000)] (.v (.bool r2))), .imp r1 r1] S (by kernel_rfl) (by kernel_rfl) (by kernel_rfl) ⟨⟨enters_53, fun _ W _ hm => stream_within_ok (MSpan.mk j.flow.lo j.flow.hi) 1 1073741824 W r1 e1⟩, fun h => h, fun h => h, fun hW => ⟨enters_53, fun _ W _ hm => stream_within_ok (MSpan.mk j.warm.lo j.warm.hi) 0 100000 W r2 (bif_t hW e2)⟩, fun h => h, trivial⟩ ?_
  clear S; intro E a w S
  refine wp_ret ?_
  have h := Option.some.inj h
  subst h
  exact sym_ret lay_ok [.v (.bool (r1 && r2))] (by kernel_rfl) rfl S ⟨rfl, S.below rfl⟩
def stream_draw_valid (d : MDraw) : Option Bool :=
(stream_within (MSpan.mk d.flow.lo d.flow.hi) 0 1073741824).bind fun (r1 : Bool) =>
some r1
set_option maxRecDepth 100000 in
set_option maxHeartbeats 4000000 in
theorem stream_draw_valid_ok (d : MDraw) (W : World)  (res : Bool) (h : stream_draw_valid d = some res) :
    Calls Go.Proofs.Try.prog 92 #[.agg #[.int .i64 d.flow.lo, .int .i64 d.flow.hi]] W fun e w' => e = .returned (.bool res) ∧ Below W.heap.size W w' := by
  refine sym_call (f := 92) (fn := Go.Proofs.Try.f92) (c := Go.Proofs.Try.f92.body.get rfl) Go.Proofs.Try.func92 rfl [.agg [iv (d.flow.lo), iv (d.flow.hi)]] [] [] (envOf []) allR (fun _ _ => rfl) (by kernel_rfl) (envOf_one trivial) trivial (AllRR.all _ _) trivial fun E a w S => ?_
  rw [stream_draw_valid] at h
  refine sym_seq lay_ok mixed [(0, { g := 0 })] [1] [0] (⟨[(1, .own 0 0)], ⟨[(0, .blk 116 [iv (d.flow.lo), iv (d.flow.hi)])], [], []⟩⟩) [] S (by kernel_rfl) (by kernel_rfl) (by kernel_rfl) trivial ?_
  clear S; intro E a w S
  obtain ⟨r1, e1, h⟩ := bind_some h
  refine sym_seq lay_ok mixed [(2, { res := .v (.bool r1) })] [2] [] (⟨[(2, .v (.bool r1))], ⟨[], [], []⟩⟩) [.call ⟨[], [], []⟩ 53 [.agg [iv (d.flow.lo), iv (d.flow.hi)], iv (0), iv (1073741824)] (.v (.bool r1))] S (by kernel_rfl) (by kernel_rfl) (by kernel_rfl) ⟨⟨enters_53, fun _ W _ hm => stream_within_ok (MSpan.mk d.flow.lo d.flow.hi) 0 1073741824 W r1 e1⟩, trivial⟩ ?_
  clear S; intro E a w S
  refine wp_ret ?_
  have h := Option.some.inj h
  subst h
  exact sym_ret lay_ok [.v (.bool r1)] (by kernel_rfl) rfl S ⟨rfl, S.below rfl⟩
def stream_add_valid (a0 : MAdd) : Option Bool :=
(stream_within (MSpan.mk a0.heat.lo a0.heat.hi) 0 1099511627776).bind fun (r1 : Bool) =>
some r1
set_option maxRecDepth 100000 in
set_option maxHeartbeats 4000000 in
theorem stream_add_valid_ok (a0 : MAdd) (W : World)  (res : Bool) (h : stream_add_valid a0 = some res) :
    Calls Go.Proofs.Try.prog 94 #[.agg #[.int .i64 a0.heat.lo, .int .i64 a0.heat.hi]] W fun e w' => e = .returned (.bool res) ∧ Below W.heap.size W w' := by
  refine sym_call (f := 94) (fn := Go.Proofs.Try.f94) (c := Go.Proofs.Try.f94.body.get rfl) Go.Proofs.Try.func94 rfl [.agg [iv (a0.heat.lo), iv (a0.heat.hi)]] [] [] (envOf []) allR (fun _ _ => rfl) (by kernel_rfl) (envOf_one trivial) trivial (AllRR.all _ _) trivial fun E a w S => ?_
  rw [stream_add_valid] at h
  refine sym_seq lay_ok mixed [(0, { g := 0 })] [1] [0] (⟨[(1, .own 0 0)], ⟨[(0, .blk 118 [iv (a0.heat.lo), iv (a0.heat.hi)])], [], []⟩⟩) [] S (by kernel_rfl) (by kernel_rfl) (by kernel_rfl) trivial ?_
  clear S; intro E a w S
  obtain ⟨r1, e1, h⟩ := bind_some h
  refine sym_seq lay_ok mixed [(2, { res := .v (.bool r1) })] [2] [] (⟨[(2, .v (.bool r1))], ⟨[], [], []⟩⟩) [.call ⟨[], [], []⟩ 53 [.agg [iv (a0.heat.lo), iv (a0.heat.hi)], iv (0), iv (1099511627776)] (.v (.bool r1))] S (by kernel_rfl) (by kernel_rfl) (by kernel_rfl) ⟨⟨enters_53, fun _ W _ hm => stream_within_ok (MSpan.mk a0.heat.lo a0.heat.hi) 0 1099511627776 W r1 e1⟩, trivial⟩ ?_
  clear S; intro E a w S
  refine wp_ret ?_
  have h := Option.some.inj h
  subst h
  exact sym_ret lay_ok [.v (.bool r1)] (by kernel_rfl) rfl S ⟨rfl, S.below rfl⟩
def stream_air_valid (a0 : MAir) : Option Bool :=
(stream_within (MSpan.mk a0.warm.lo a0.warm.hi) 0 100000).bind fun (r1 : Bool) =>
((bif r1 then stream_within (MSpan.mk a0.share.lo a0.share.hi) 0 10000 else some default)).bind fun (r2 : Bool) =>
some (r1 && r2)
set_option maxRecDepth 100000 in
set_option maxHeartbeats 4000000 in
theorem stream_air_valid_ok (a0 : MAir) (W : World)  (res : Bool) (h : stream_air_valid a0 = some res) :
    Calls Go.Proofs.Try.prog 96 #[.agg #[.int .i64 a0.warm.lo, .int .i64 a0.warm.hi, .int .i64 a0.share.lo, .int .i64 a0.share.hi]] W fun e w' => e = .returned (.bool res) ∧ Below W.heap.size W w' := by
  refine sym_call (f := 96) (fn := Go.Proofs.Try.f96) (c := Go.Proofs.Try.f96.body.get rfl) Go.Proofs.Try.func96 rfl [.agg [iv (a0.warm.lo), iv (a0.warm.hi), iv (a0.share.lo), iv (a0.share.hi)]] [] [] (envOf []) allR (fun _ _ => rfl) (by kernel_rfl) (envOf_one trivial) trivial (AllRR.all _ _) trivial fun E a w S => ?_
  rw [stream_air_valid] at h
  refine sym_seq lay_ok mixed [(0, { g := 0 })] [1] [0] (⟨[(1, .own 0 0)], ⟨[(0, .blk 120 [iv (a0.warm.lo), iv (a0.warm.hi), iv (a0.share.lo), iv (a0.share.hi)])], [], []⟩⟩) [] S (by kernel_rfl) (by kernel_rfl) (by kernel_rfl) trivial ?_
  clear S; intro E a w S
  obtain ⟨r1, e1, h⟩ := bind_some h
  obtain ⟨r2, e2, h⟩ := bind_some h
  refine sym_seq lay_ok mixed [(2, { res := .v (.bool r1) }), (4, { og := true }), (5, { og := true }), (6, { og := true, res := .v (.bool r2) }), (7, { pk := true })] [2] [] (⟨[(2, .v (.bool (r1 && r2)))], ⟨[], [], []⟩⟩) [.call ⟨[], [], []⟩ 53 [.agg [iv (a0.warm.lo), iv (a0.warm.hi)], iv (0), iv (100000)] (.v (.bool r1)), .imp r1 r1, .imp r1 r1, .when r1 (.call ⟨[], [], []⟩ 53 [.agg [iv (a0.share.lo), iv (a0.share.hi)], iv (0), iv (10000)] (.v (.bool r2))), .imp r1 r1] S (by kernel_rfl) (by kernel_rfl) (by kernel_rfl) ⟨⟨enters_53, fun _ W _ hm => stream_within_ok (MSpan.mk a0.warm.lo a0.warm.hi) 0 100000 W r1 e1⟩, fun h => h, fun h => h, fun hW => ⟨enters_53, fun _ W _ hm => stream_within_ok (MSpan.mk a0.share.lo a0.share.hi) 0 10000 W r2 (bif_t hW e2)⟩, fun h => h, trivial⟩ ?_
  clear S; intro E a w S
  refine wp_ret ?_
  have h := Option.some.inj h
  subst h
  exact sym_ret lay_ok [.v (.bool (r1 && r2))] (by kernel_rfl) rfl S ⟨rfl, S.below rfl⟩
def stream_down (a0 : Int) (b : Int) : Option Int :=
grd (¬ b = 0 ∧ InI64 (a0.tdiv b)) <|
some (a0.tdiv b)
set_option maxRecDepth 100000 in
set_option maxHeartbeats 4000000 in
theorem stream_down_ok (a0 : Int) (b : Int) (W : World)  (res : Int) (h : stream_down a0 b = some res) :
    Calls Go.Proofs.Try.prog 89 #[.int .i64 a0, .int .i64 b] W fun e w' => e = .returned (.int .i64 res) ∧ Below W.heap.size W w' := by
  refine sym_call (f := 89) (fn := Go.Proofs.Try.f89) (c := Go.Proofs.Try.f89.body.get rfl) Go.Proofs.Try.func89 rfl [iv (a0), iv (b)] [] [] (envOf []) allR (fun _ _ => rfl) (by kernel_rfl) (envOf_one trivial) trivial (AllRR.all _ _) trivial fun E a w S => ?_
  rw [stream_down] at h
  refine sym_seq lay_ok mixed [] [0, 1] [] (⟨[(0, iv (a0)), (1, iv (b))], ⟨[], [], []⟩⟩) [] S (by kernel_rfl) (by kernel_rfl) (by kernel_rfl) trivial ?_
  clear S; intro E a w S
  obtain ⟨⟨g1, g2⟩, h⟩ := grd_some h
  refine sym_seq lay_ok mixed [] [4] [] (⟨[(4, iv ((a0.tdiv b)))], ⟨[], [], []⟩⟩) [.nz b, .rng .i64 (a0.tdiv b)] S (by kernel_rfl) (by kernel_rfl) (by kernel_rfl) ⟨g1, rngI64 g2, trivial⟩ ?_
  clear S; intro E a w S
  refine wp_ret ?_
  have h := Option.some.inj h
  subst h
  exact sym_ret lay_ok [iv ((a0.tdiv b))] (by kernel_rfl) rfl S ⟨rfl, S.below rfl⟩
def stream_up (a0 : Int) (b : Int) : Option Int :=
grd (InI64 (a0 + b) ∧ InI64 ((a0 + b) - 1) ∧ ¬ b = 0 ∧ InI64 (((a0 + b) - 1).tdiv b)) <|
some (((a0 + b) - 1).tdiv b)
set_option maxRecDepth 100000 in
set_option maxHeartbeats 4000000 in
theorem stream_up_ok (a0 : Int) (b : Int) (W : World)  (res : Int) (h : stream_up a0 b = some res) :
    Calls Go.Proofs.Try.prog 90 #[.int .i64 a0, .int .i64 b] W fun e w' => e = .returned (.int .i64 res) ∧ Below W.heap.size W w' := by
  refine sym_call (f := 90) (fn := Go.Proofs.Try.f90) (c := Go.Proofs.Try.f90.body.get rfl) Go.Proofs.Try.func90 rfl [iv (a0), iv (b)] [] [] (envOf []) allR (fun _ _ => rfl) (by kernel_rfl) (envOf_one trivial) trivial (AllRR.all _ _) trivial fun E a w S => ?_
  rw [stream_up] at h
  refine sym_seq lay_ok mixed [] [0, 1] [] (⟨[(0, iv (a0)), (1, iv (b))], ⟨[], [], []⟩⟩) [] S (by kernel_rfl) (by kernel_rfl) (by kernel_rfl) trivial ?_
  clear S; intro E a w S
  obtain ⟨⟨g1, g2, g3, g4⟩, h⟩ := grd_some h
  refine sym_seq lay_ok mixed [] [4] [] (⟨[(4, iv ((((a0 + b) - 1).tdiv b)))], ⟨[], [], []⟩⟩) [.rng .i64 (a0 + b), .rng .i64 ((a0 + b) - 1), .nz b, .rng .i64 (((a0 + b) - 1).tdiv b)] S (by kernel_rfl) (by kernel_rfl) (by kernel_rfl) ⟨rngI64 g1, rngI64 g2, g3, rngI64 g4, trivial⟩ ?_
  clear S; intro E a w S
  refine wp_ret ?_
  have h := Option.some.inj h
  subst h
  exact sym_ret lay_ok [iv ((((a0 + b) - 1).tdiv b))] (by kernel_rfl) rfl S ⟨rfl, S.below rfl⟩
def stream_add_behind (a0 : MAdd) (ahead : MWater) : Option MWater :=
(stream_down a0.heat.lo ahead.flow.hi).bind fun (r1 : Int) =>
grd (InI64 (ahead.warm.lo + r1)) <|
(stream_up a0.heat.hi ahead.flow.lo).bind fun (r2 : Int) =>
grd (InI64 (ahead.warm.hi + r2)) <|
some (MWater.mk (MSpan.mk ahead.flow.lo ahead.flow.hi) (MSpan.mk (ahead.warm.lo + r1) (ahead.warm.hi + r2)))
set_option maxRecDepth 100000 in
set_option maxHeartbeats 4000000 in
theorem stream_add_behind_ok (a0 : MAdd) (ahead : MWater) (W : World)  (res : MWater) (h : stream_add_behind a0 ahead = some res) :
    Calls Go.Proofs.Try.prog 93 #[.agg #[.int .i64 a0.heat.lo, .int .i64 a0.heat.hi], .agg #[.int .i64 ahead.flow.lo, .int .i64 ahead.flow.hi, .int .i64 ahead.warm.lo, .int .i64 ahead.warm.hi]] W fun e w' => e = .returned (.agg #[.int .i64 res.flow.lo, .int .i64 res.flow.hi, .int .i64 res.warm.lo, .int .i64 res.warm.hi]) ∧ Below W.heap.size W w' := by
  refine sym_call (f := 93) (fn := Go.Proofs.Try.f93) (c := Go.Proofs.Try.f93.body.get rfl) Go.Proofs.Try.func93 rfl [.agg [iv (a0.heat.lo), iv (a0.heat.hi)], .agg [iv (ahead.flow.lo), iv (ahead.flow.hi), iv (ahead.warm.lo), iv (ahead.warm.hi)]] [] [] (envOf []) allR (fun _ _ => rfl) (by kernel_rfl) (envOf_one trivial) trivial (AllRR.all _ _) trivial fun E a w S => ?_
  rw [stream_add_behind] at h
  refine sym_seq lay_ok mixed [(0, { g := 0 }), (1, { g := 1 }), (2, { g := 2 })] [2, 3, 4] [0, 1, 2] (⟨[(2, .own 0 0), (3, .own 1 0), (4, .own 2 0)], ⟨[(0, .blk 118 [iv (a0.heat.lo), iv (a0.heat.hi)]), (1, .blk 25 [iv (ahead.flow.lo), iv (ahead.flow.hi), iv (ahead.warm.lo), iv (ahead.warm.hi)]), (2, .blk 25 [iv (0), iv (0), iv (0), iv (0)])], [], []⟩⟩) [] S (by kernel_rfl) (by kernel_rfl) (by kernel_rfl) trivial ?_
  clear S; intro E a w S
  obtain ⟨r1, e1, h⟩ := bind_some h
  obtain ⟨g1, h⟩ := grd_some h
  refine sym_seq lay_ok mixed [(9, { res := iv (r1) })] [2, 3, 4] [0, 1, 2] (⟨[(2, .own 0 0), (3, .own 1 0), (4, .own 2 0)], ⟨[(0, .blk 118 [iv (a0.heat.lo), iv (a0.heat.hi)]), (1, .blk 25 [iv (ahead.flow.lo), iv (ahead.flow.hi), iv ((ahead.warm.lo + r1)), iv (ahead.warm.hi)]), (2, .blk 25 [iv (0), iv (0), iv (0), iv (0)])], [], []⟩⟩) [.call ⟨[], [], []⟩ 89 [iv (a0.heat.lo), iv (ahead.flow.hi)] (iv (r1)), .rng .i64 (ahead.warm.lo + r1)] S (by kernel_rfl) (by kernel_rfl) (by kernel_rfl) ⟨⟨enters_89, fun _ W _ hm => stream_down_ok a0.heat.lo ahead.flow.hi W r1 e1⟩, rngI64 g1, trivial⟩ ?_
  clear S; intro E a w S
  obtain ⟨r2, e2, h⟩ := bind_some h
  obtain ⟨g2, h⟩ := grd_some h
  refine sym_seq lay_ok mixed [(9, { res := iv (r2) })] [3, 4] [1, 2] (⟨[(3, .own 1 0), (4, .own 2 0)], ⟨[(1, .blk 25 [iv (ahead.flow.lo), iv (ahead.flow.hi), iv ((ahead.warm.lo + r1)), iv ((ahead.warm.hi + r2))]), (2, .blk 25 [iv (0), iv (0), iv (0), iv (0)])], [], []⟩⟩) [.call ⟨[], [], []⟩ 90 [iv (a0.heat.hi), iv (ahead.flow.lo)] (iv (r2)), .rng .i64 (ahead.warm.hi + r2)] S (by kernel_rfl) (by kernel_rfl) (by kernel_rfl) ⟨⟨enters_90, fun _ W _ hm => stream_up_ok a0.heat.hi ahead.flow.lo W r2 e2⟩, rngI64 g2, trivial⟩ ?_
  clear S; intro E a w S
  refine sym_seq lay_ok mixed [] [4] [2] (⟨[(4, .own 2 0)], ⟨[(2, .blk 25 [iv (ahead.flow.lo), iv (ahead.flow.hi), iv ((ahead.warm.lo + r1)), iv ((ahead.warm.hi + r2))])], [], []⟩⟩) [] S (by kernel_rfl) (by kernel_rfl) (by kernel_rfl) trivial ?_
  clear S; intro E a w S
  refine wp_ret ?_
  have h := Option.some.inj h
  subst h
  exact sym_ret lay_ok [.agg [iv (ahead.flow.lo), iv (ahead.flow.hi), iv ((ahead.warm.lo + r1)), iv ((ahead.warm.hi + r2))]] (by kernel_rfl) rfl S ⟨rfl, S.below rfl⟩
def stream_draw_behind (d : MDraw) (ahead : MWater) : Option MWater :=
grd (InI64 (ahead.flow.lo - d.flow.hi) ∧ InI64 (ahead.flow.hi - d.flow.lo)) <|
some (MWater.mk (MSpan.mk (ahead.flow.lo - d.flow.hi) (ahead.flow.hi - d.flow.lo)) (MSpan.mk ahead.warm.lo ahead.warm.hi))
set_option maxRecDepth 100000 in
set_option maxHeartbeats 4000000 in
theorem stream_draw_behind_ok (d : MDraw) (ahead : MWater) (W : World)  (res : MWater) (h : stream_draw_behind d ahead = some res) :
    Calls Go.Proofs.Try.prog 91 #[.agg #[.int .i64 d.flow.lo, .int .i64 d.flow.hi], .agg #[.int .i64 ahead.flow.lo, .int .i64 ahead.flow.hi, .int .i64 ahead.warm.lo, .int .i64 ahead.warm.hi]] W fun e w' => e = .returned (.agg #[.int .i64 res.flow.lo, .int .i64 res.flow.hi, .int .i64 res.warm.lo, .int .i64 res.warm.hi]) ∧ Below W.heap.size W w' := by
  refine sym_call (f := 91) (fn := Go.Proofs.Try.f91) (c := Go.Proofs.Try.f91.body.get rfl) Go.Proofs.Try.func91 rfl [.agg [iv (d.flow.lo), iv (d.flow.hi)], .agg [iv (ahead.flow.lo), iv (ahead.flow.hi), iv (ahead.warm.lo), iv (ahead.warm.hi)]] [] [] (envOf []) allR (fun _ _ => rfl) (by kernel_rfl) (envOf_one trivial) trivial (AllRR.all _ _) trivial fun E a w S => ?_
  rw [stream_draw_behind] at h
  refine sym_seq lay_ok mixed [(0, { g := 0 }), (1, { g := 1 }), (2, { g := 2 })] [2, 3, 4] [0, 1, 2] (⟨[(2, .own 0 0), (3, .own 1 0), (4, .own 2 0)], ⟨[(0, .blk 116 [iv (d.flow.lo), iv (d.flow.hi)]), (1, .blk 25 [iv (ahead.flow.lo), iv (ahead.flow.hi), iv (ahead.warm.lo), iv (ahead.warm.hi)]), (2, .blk 25 [iv (0), iv (0), iv (0), iv (0)])], [], []⟩⟩) [] S (by kernel_rfl) (by kernel_rfl) (by kernel_rfl) trivial ?_
  clear S; intro E a w S
  obtain ⟨⟨g1, g2⟩, h⟩ := grd_some h
  refine sym_seq lay_ok mixed [] [3, 4] [1, 2] (⟨[(3, .own 1 0), (4, .own 2 0)], ⟨[(1, .blk 25 [iv ((ahead.flow.lo - d.flow.hi)), iv ((ahead.flow.hi - d.flow.lo)), iv (ahead.warm.lo), iv (ahead.warm.hi)]), (2, .blk 25 [iv (0), iv (0), iv (0), iv (0)])], [], []⟩⟩) [.rng .i64 (ahead.flow.lo - d.flow.hi), .rng .i64 (ahead.flow.hi - d.flow.lo)] S (by kernel_rfl) (by kernel_rfl) (by kernel_rfl) ⟨rngI64 g1, rngI64 g2, trivial⟩ ?_
  clear S; intro E a w S
  refine sym_seq lay_ok mixed [] [4] [2] (⟨[(4, .own 2 0)], ⟨[(2, .blk 25 [iv ((ahead.flow.lo - d.flow.hi)), iv ((ahead.flow.hi - d.flow.lo)), iv (ahead.warm.lo), iv (ahead.warm.hi)])], [], []⟩⟩) [] S (by kernel_rfl) (by kernel_rfl) (by kernel_rfl) trivial ?_
  clear S; intro E a w S
  refine wp_ret ?_
  have h := Option.some.inj h
  subst h
  exact sym_ret lay_ok [.agg [iv ((ahead.flow.lo - d.flow.hi)), iv ((ahead.flow.hi - d.flow.lo)), iv (ahead.warm.lo), iv (ahead.warm.hi)]] (by kernel_rfl) rfl S ⟨rfl, S.below rfl⟩
def wormtubref05_span (s : MSpan) (least : Int) (most : Int) : Option Bool :=
some ((decide (least ≤ s.lo) && decide (s.lo ≤ s.hi)) && decide (s.hi ≤ most))
set_option maxRecDepth 100000 in
set_option maxHeartbeats 4000000 in
theorem wormtubref05_span_ok (s : MSpan) (least : Int) (most : Int) (W : World)  (res : Bool) (h : wormtubref05_span s least most = some res) :
    Calls Go.Proofs.Try.prog 52 #[.agg #[.int .i64 s.lo, .int .i64 s.hi], .int .i64 least, .int .i64 most] W fun e w' => e = .returned (.bool res) ∧ Below W.heap.size W w' := by
  refine sym_call (f := 52) (fn := Go.Proofs.Try.f52) (c := Go.Proofs.Try.f52.body.get rfl) Go.Proofs.Try.func52 rfl [.agg [iv (s.lo), iv (s.hi)], iv (least), iv (most)] [] [] (envOf []) allR (fun _ _ => rfl) (by kernel_rfl) (envOf_one trivial) trivial (AllRR.all _ _) trivial fun E a w S => ?_
  rw [wormtubref05_span] at h
  refine sym_seq lay_ok mixed [(0, { g := 0 })] [1, 2, 3] [0] (⟨[(1, iv (least)), (2, iv (most)), (3, .own 0 0)], ⟨[(0, .blk 23 [iv (s.lo), iv (s.hi)])], [], []⟩⟩) [] S (by kernel_rfl) (by kernel_rfl) (by kernel_rfl) trivial ?_
  clear S; intro E a w S
  refine sym_seq lay_ok mixed [(5, { og := true }), (6, { og := true }), (7, { og := true }), (8, { og := true }), (9, { og := true }), (10, { pk := true }), (12, { og := true }), (13, { og := true }), (14, { og := true }), (15, { og := true }), (16, { pk := true })] [6] [] (⟨[(6, .v (.bool ((decide (least ≤ s.lo) && decide (s.lo ≤ s.hi)) && decide (s.hi ≤ most))))], ⟨[], [], []⟩⟩) [.imp (decide (least ≤ s.lo)) (decide (least ≤ s.lo)), .imp (decide (least ≤ s.lo)) (decide (least ≤ s.lo)), .imp (decide (least ≤ s.lo)) (decide (least ≤ s.lo)), .imp (decide (least ≤ s.lo)) (decide (least ≤ s.lo)), .imp (decide (least ≤ s.lo)) (decide (least ≤ s.lo)), .imp (decide (least ≤ s.lo) && decide (s.lo ≤ s.hi)) (decide (least ≤ s.lo) && decide (s.lo ≤ s.hi)), .imp (decide (least ≤ s.lo) && decide (s.lo ≤ s.hi)) (decide (least ≤ s.lo) && decide (s.lo ≤ s.hi)), .imp (decide (least ≤ s.lo) && decide (s.lo ≤ s.hi)) (decide (least ≤ s.lo) && decide (s.lo ≤ s.hi)), .imp (decide (least ≤ s.lo) && decide (s.lo ≤ s.hi)) (decide (least ≤ s.lo) && decide (s.lo ≤ s.hi))] S (by kernel_rfl) (by kernel_rfl) (by kernel_rfl) ⟨fun h => h, fun h => h, fun h => h, fun h => h, fun h => h, fun h => h, fun h => h, fun h => h, fun h => h, trivial⟩ ?_
  clear S; intro E a w S
  refine wp_ret ?_
  have h := Option.some.inj h
  subst h
  exact sym_ret lay_ok [.v (.bool ((decide (least ≤ s.lo) && decide (s.lo ≤ s.hi)) && decide (s.hi ≤ most)))] (by kernel_rfl) rfl S ⟨rfl, S.below rfl⟩
def wormtubref05_Water (w0 : MWater) : Option Bool :=
(wormtubref05_span (MSpan.mk w0.flow.lo w0.flow.hi) 1 1073741824).bind fun (r1 : Bool) =>
((bif r1 then wormtubref05_span (MSpan.mk w0.warm.lo w0.warm.hi) 0 100000 else some default)).bind fun (r2 : Bool) =>
some (r1 && r2)
set_option maxRecDepth 100000 in
set_option maxHeartbeats 4000000 in
theorem wormtubref05_Water_ok (w0 : MWater) (W : World)  (res : Bool) (h : wormtubref05_Water w0 = some res) :
    Calls Go.Proofs.Try.prog 23 #[.agg #[.int .i64 w0.flow.lo, .int .i64 w0.flow.hi, .int .i64 w0.warm.lo, .int .i64 w0.warm.hi]] W fun e w' => e = .returned (.bool res) ∧ Below W.heap.size W w' := by
  refine sym_call (f := 23) (fn := Go.Proofs.Try.f23) (c := Go.Proofs.Try.f23.body.get rfl) Go.Proofs.Try.func23 rfl [.agg [iv (w0.flow.lo), iv (w0.flow.hi), iv (w0.warm.lo), iv (w0.warm.hi)]] [] [] (envOf []) allR (fun _ _ => rfl) (by kernel_rfl) (envOf_one trivial) trivial (AllRR.all _ _) trivial fun E a w S => ?_
  rw [wormtubref05_Water] at h
  refine sym_seq lay_ok mixed [(0, { g := 0 })] [1] [0] (⟨[(1, .own 0 0)], ⟨[(0, .blk 25 [iv (w0.flow.lo), iv (w0.flow.hi), iv (w0.warm.lo), iv (w0.warm.hi)])], [], []⟩⟩) [] S (by kernel_rfl) (by kernel_rfl) (by kernel_rfl) trivial ?_
  clear S; intro E a w S
  obtain ⟨r1, e1, h⟩ := bind_some h
  obtain ⟨r2, e2, h⟩ := bind_some h
  refine sym_seq lay_ok mixed [(2, { res := .v (.bool r1) }), (4, { og := true }), (5, { og := true }), (6, { og := true, res := .v (.bool r2) }), (7, { pk := true })] [2] [] (⟨[(2, .v (.bool (r1 && r2)))], ⟨[], [], []⟩⟩) [.call ⟨[], [], []⟩ 52 [.agg [iv (w0.flow.lo), iv (w0.flow.hi)], iv (1), iv (1073741824)] (.v (.bool r1)), .imp r1 r1, .imp r1 r1, .when r1 (.call ⟨[], [], []⟩ 52 [.agg [iv (w0.warm.lo), iv (w0.warm.hi)], iv (0), iv (100000)] (.v (.bool r2))), .imp r1 r1] S (by kernel_rfl) (by kernel_rfl) (by kernel_rfl) ⟨⟨enters_52, fun _ W _ hm => wormtubref05_span_ok (MSpan.mk w0.flow.lo w0.flow.hi) 1 1073741824 W r1 e1⟩, fun h => h, fun h => h, fun hW => ⟨enters_52, fun _ W _ hm => wormtubref05_span_ok (MSpan.mk w0.warm.lo w0.warm.hi) 0 100000 W r2 (bif_t hW e2)⟩, fun h => h, trivial⟩ ?_
  clear S; intro E a w S
  refine wp_ret ?_
  have h := Option.some.inj h
  subst h
  exact sym_ret lay_ok [.v (.bool (r1 && r2))] (by kernel_rfl) rfl S ⟨rfl, S.below rfl⟩
def wormtubref05_Point (p : MPoint) : Option Bool :=
(bif (p.kind == 0) then
((wormtubref05_span (MSpan.mk p.flow.lo p.flow.hi) 1 1073741824).bind fun (r1 : Bool) =>
((bif r1 then wormtubref05_span (MSpan.mk p.warm.lo p.warm.hi) 0 100000 else some default)).bind fun (r2 : Bool) =>
some (r1 && r2))
else
((bif (p.kind == 1) then
((wormtubref05_span (MSpan.mk p.flow.lo p.flow.hi) 0 1073741824).bind fun (r3 : Bool) =>
some r3)
else
((bif (p.kind == 2) then
((wormtubref05_span (MSpan.mk p.heat.lo p.heat.hi) 0 1099511627776).bind fun (r4 : Bool) =>
some r4)
else
((bif (p.kind == 3) then
((wormtubref05_span (MSpan.mk p.warm.lo p.warm.hi) 0 100000).bind fun (r5 : Bool) =>
((bif r5 then wormtubref05_span (MSpan.mk p.share.lo p.share.hi) 0 10000 else some default)).bind fun (r6 : Bool) =>
some (r5 && r6))
else
(some false))))))))
set_option maxRecDepth 100000 in
set_option maxHeartbeats 4000000 in
theorem wormtubref05_Point_ok (p : MPoint) (W : World)  (res : Bool) (h : wormtubref05_Point p = some res) :
    Calls Go.Proofs.Try.prog 24 #[.agg #[.int .i64 p.kind, .int .i64 p.flow.lo, .int .i64 p.flow.hi, .int .i64 p.warm.lo, .int .i64 p.warm.hi, .int .i64 p.heat.lo, .int .i64 p.heat.hi, .int .i64 p.share.lo, .int .i64 p.share.hi]] W fun e w' => e = .returned (.bool res) ∧ Below W.heap.size W w' := by
  refine sym_call (f := 24) (fn := Go.Proofs.Try.f24) (c := Go.Proofs.Try.f24.body.get rfl) Go.Proofs.Try.func24 rfl [.agg [iv (p.kind), iv (p.flow.lo), iv (p.flow.hi), iv (p.warm.lo), iv (p.warm.hi), iv (p.heat.lo), iv (p.heat.hi), iv (p.share.lo), iv (p.share.hi)]] [] [] (envOf []) allR (fun _ _ => rfl) (by kernel_rfl) (envOf_one trivial) trivial (AllRR.all _ _) trivial fun E a w S => ?_
  rw [wormtubref05_Point] at h
  refine sym_seq lay_ok mixed [(0, { g := 0 })] [1] [0] (⟨[(1, .own 0 0)], ⟨[(0, .blk 47 [iv (p.kind), iv (p.flow.lo), iv (p.flow.hi), iv (p.warm.lo), iv (p.warm.hi), iv (p.heat.lo), iv (p.heat.hi), iv (p.share.lo), iv (p.share.hi)])], [], []⟩⟩) [] S (by kernel_rfl) (by kernel_rfl) (by kernel_rfl) trivial ?_
  clear S; intro E a w S
  refine wp_seq ?_
  refine sym_seq lay_ok mixed [] [1, 4] [0] (⟨[(1, .own 0 0), (4, iv (p.kind))], ⟨[(0, .blk 47 [iv (p.kind), iv (p.flow.lo), iv (p.flow.hi), iv (p.warm.lo), iv (p.warm.hi), iv (p.heat.lo), iv (p.heat.hi), iv (p.share.lo), iv (p.share.hi)])], [], []⟩⟩) [] S (by kernel_rfl) (by kernel_rfl) (by kernel_rfl) trivial ?_
  clear S; intro E a w S
  refine wp_block ?_
  refine sym_seq lay_ok mixed [] [1, 4, 5] [0] (⟨[(1, .own 0 0), (4, iv (p.kind)), (5, .v (.bool (p.kind == 0)))], ⟨[(0, .blk 47 [iv (p.kind), iv (p.flow.lo), iv (p.flow.hi), iv (p.warm.lo), iv (p.warm.hi), iv (p.heat.lo), iv (p.heat.hi), iv (p.share.lo), iv (p.share.hi)])], [], []⟩⟩) [] S (by kernel_rfl) (by kernel_rfl) (by kernel_rfl) trivial ?_
  clear S; intro E a w S
  refine sym_if_last (b := (p.kind == 0)) S rfl (fun hb1 => ?_) (fun hb1 => ?_)
  · have h := bif_t hb1 h
    obtain ⟨r1, e1, h⟩ := bind_some h
    obtain ⟨r2, e2, h⟩ := bind_some h
    refine sym_seq lay_ok mixed [(2, { res := .v (.bool r1) }), (4, { og := true }), (5, { og := true }), (6, { og := true, res := .v (.bool r2) }), (7, { pk := true })] [2] [] (⟨[(2, .v (.bool (r1 && r2)))], ⟨[], [], []⟩⟩) [.call ⟨[], [], []⟩ 52 [.agg [iv (p.flow.lo), iv (p.flow.hi)], iv (1), iv (1073741824)] (.v (.bool r1)), .imp r1 r1, .imp r1 r1, .when r1 (.call ⟨[], [], []⟩ 52 [.agg [iv (p.warm.lo), iv (p.warm.hi)], iv (0), iv (100000)] (.v (.bool r2))), .imp r1 r1] S (by kernel_rfl) (by kernel_rfl) (by kernel_rfl) ⟨⟨enters_52, fun _ W _ hm => wormtubref05_span_ok (MSpan.mk p.flow.lo p.flow.hi) 1 1073741824 W r1 e1⟩, fun h => h, fun h => h, fun hW => ⟨enters_52, fun _ W _ hm => wormtubref05_span_ok (MSpan.mk p.warm.lo p.warm.hi) 0 100000 W r2 (bif_t hW e2)⟩, fun h => h, trivial⟩ ?_
    clear S; intro E a w S
    refine wp_ret ?_
    refine out_block_ret ?_
    refine out_then_ret ?_
    have h := Option.some.inj h
    subst h
    exact sym_ret lay_ok [.v (.bool (r1 && r2))] (by kernel_rfl) rfl S ⟨rfl, S.below rfl⟩
  · have h := bif_f hb1 h
    refine sym_seq lay_ok mixed [] [1, 4, 15] [0] (⟨[(1, .own 0 0), (4, iv (p.kind)), (15, .v (.bool (p.kind == 1)))], ⟨[(0, .blk 47 [iv (p.kind), iv (p.flow.lo), iv (p.flow.hi), iv (p.warm.lo), iv (p.warm.hi), iv (p.heat.lo), iv (p.heat.hi), iv (p.share.lo), iv (p.share.hi)])], [], []⟩⟩) [] S (by kernel_rfl) (by kernel_rfl) (by kernel_rfl) trivial ?_
    clear S; intro E a w S
    refine sym_if_last (b := (p.kind == 1)) S rfl (fun hb2 => ?_) (fun hb2 => ?_)
    · have h := bif_t hb2 h
      obtain ⟨r3, e3, h⟩ := bind_some h
      refine sym_seq lay_ok mixed [(2, { res := .v (.bool r3) })] [2] [] (⟨[(2, .v (.bool r3))], ⟨[], [], []⟩⟩) [.call ⟨[], [], []⟩ 52 [.agg [iv (p.flow.lo), iv (p.flow.hi)], iv (0), iv (1073741824)] (.v (.bool r3))] S (by kernel_rfl) (by kernel_rfl) (by kernel_rfl) ⟨⟨enters_52, fun _ W _ hm => wormtubref05_span_ok (MSpan.mk p.flow.lo p.flow.hi) 0 1073741824 W r3 e3⟩, trivial⟩ ?_
      clear S; intro E a w S
      refine wp_ret ?_
      refine out_block_ret ?_
      refine out_then_ret ?_
      have h := Option.some.inj h
      subst h
      exact sym_ret lay_ok [.v (.bool r3)] (by kernel_rfl) rfl S ⟨rfl, S.below rfl⟩
    · have h := bif_f hb2 h
      refine sym_seq lay_ok mixed [] [1, 4, 20] [0] (⟨[(1, .own 0 0), (4, iv (p.kind)), (20, .v (.bool (p.kind == 2)))], ⟨[(0, .blk 47 [iv (p.kind), iv (p.flow.lo), iv (p.flow.hi), iv (p.warm.lo), iv (p.warm.hi), iv (p.heat.lo), iv (p.heat.hi), iv (p.share.lo), iv (p.share.hi)])], [], []⟩⟩) [] S (by kernel_rfl) (by kernel_rfl) (by kernel_rfl) trivial ?_
      clear S; intro E a w S
      refine sym_if_last (b := (p.kind == 2)) S rfl (fun hb3 => ?_) (fun hb3 => ?_)
      · have h := bif_t hb3 h
        obtain ⟨r4, e4, h⟩ := bind_some h
        refine sym_seq lay_ok mixed [(2, { res := .v (.bool r4) })] [2] [] (⟨[(2, .v (.bool r4))], ⟨[], [], []⟩⟩) [.call ⟨[], [], []⟩ 52 [.agg [iv (p.heat.lo), iv (p.heat.hi)], iv (0), iv (1099511627776)] (.v (.bool r4))] S (by kernel_rfl) (by kernel_rfl) (by kernel_rfl) ⟨⟨enters_52, fun _ W _ hm => wormtubref05_span_ok (MSpan.mk p.heat.lo p.heat.hi) 0 1099511627776 W r4 e4⟩, trivial⟩ ?_
        clear S; intro E a w S
        refine wp_ret ?_
        refine out_block_ret ?_
        refine out_then_ret ?_
        have h := Option.some.inj h
        subst h
        exact sym_ret lay_ok [.v (.bool r4)] (by kernel_rfl) rfl S ⟨rfl, S.below rfl⟩
      · have h := bif_f hb3 h
        refine sym_seq lay_ok mixed [] [1, 25] [0] (⟨[(1, .own 0 0), (25, .v (.bool (p.kind == 3)))], ⟨[(0, .blk 47 [iv (p.kind), iv (p.flow.lo), iv (p.flow.hi), iv (p.warm.lo), iv (p.warm.hi), iv (p.heat.lo), iv (p.heat.hi), iv (p.share.lo), iv (p.share.hi)])], [], []⟩⟩) [] S (by kernel_rfl) (by kernel_rfl) (by kernel_rfl) trivial ?_
        clear S; intro E a w S
        refine sym_if_last (b := (p.kind == 3)) S rfl (fun hb4 => ?_) (fun hb4 => ?_)
        · have h := bif_t hb4 h
          obtain ⟨r5, e5, h⟩ := bind_some h
          obtain ⟨r6, e6, h⟩ := bind_some h
          refine sym_seq lay_ok mixed [(2, { res := .v (.bool r5) }), (4, { og := true }), (5, { og := true }), (6, { og := true, res := .v (.bool r6) }), (7, { pk := true })] [2] [] (⟨[(2, .v (.bool (r5 && r6)))], ⟨[], [], []⟩⟩) [.call ⟨[], [], []⟩ 52 [.agg [iv (p.warm.lo), iv (p.warm.hi)], iv (0), iv (100000)] (.v (.bool r5)), .imp r5 r5, .imp r5 r5, .when r5 (.call ⟨[], [], []⟩ 52 [.agg [iv (p.share.lo), iv (p.share.hi)], iv (0), iv (10000)] (.v (.bool r6))), .imp r5 r5] S (by kernel_rfl) (by kernel_rfl) (by kernel_rfl) ⟨⟨enters_52, fun _ W _ hm => wormtubref05_span_ok (MSpan.mk p.warm.lo p.warm.hi) 0 100000 W r5 e5⟩, fun h => h, fun h => h, fun hW => ⟨enters_52, fun _ W _ hm => wormtubref05_span_ok (MSpan.mk p.share.lo p.share.hi) 0 10000 W r6 (bif_t hW e6)⟩, fun h => h, trivial⟩ ?_
          clear S; intro E a w S
          refine wp_ret ?_
          refine out_block_ret ?_
          refine out_then_ret ?_
          have h := Option.some.inj h
          subst h
          exact sym_ret lay_ok [.v (.bool (r5 && r6))] (by kernel_rfl) rfl S ⟨rfl, S.below rfl⟩
        · have h := bif_f hb4 h
          refine wp_skip ?_
          refine out_block_normal ?_
          refine out_then_normal ?_
          refine sym_seq lay_ok mixed [] [2] [] (⟨[(2, .v (.bool false))], ⟨[], [], []⟩⟩) [] S (by kernel_rfl) (by kernel_rfl) (by kernel_rfl) trivial ?_
          clear S; intro E a w S
          refine wp_ret ?_
          have h := Option.some.inj h
          subst h
          exact sym_ret lay_ok [.v (.bool false)] (by kernel_rfl) rfl S ⟨rfl, S.below rfl⟩
def wormtubref05_in (n0 : Int) (least : Int) (most : Int) : Option Bool :=
some (decide (least ≤ n0) && decide (n0 ≤ most))
set_option maxRecDepth 100000 in
set_option maxHeartbeats 4000000 in
theorem wormtubref05_in_ok (n0 : Int) (least : Int) (most : Int) (W : World)  (res : Bool) (h : wormtubref05_in n0 least most = some res) :
    Calls Go.Proofs.Try.prog 39 #[.int .i64 n0, .int .i64 least, .int .i64 most] W fun e w' => e = .returned (.bool res) ∧ Below W.heap.size W w' := by
  refine sym_call (f := 39) (fn := Go.Proofs.Try.f39) (c := Go.Proofs.Try.f39.body.get rfl) Go.Proofs.Try.func39 rfl [iv (n0), iv (least), iv (most)] [] [] (envOf []) allR (fun _ _ => rfl) (by kernel_rfl) (envOf_one trivial) trivial (AllRR.all _ _) trivial fun E a w S => ?_
  rw [wormtubref05_in] at h
  refine sym_seq lay_ok mixed [] [0, 1, 2] [] (⟨[(0, iv (n0)), (1, iv (least)), (2, iv (most))], ⟨[], [], []⟩⟩) [] S (by kernel_rfl) (by kernel_rfl) (by kernel_rfl) trivial ?_
  clear S; intro E a w S
  refine sym_seq lay_ok mixed [(4, { og := true }), (5, { og := true }), (6, { og := true }), (7, { pk := true })] [6] [] (⟨[(6, .v (.bool (decide (least ≤ n0) && decide (n0 ≤ most))))], ⟨[], [], []⟩⟩) [.imp (decide (least ≤ n0)) (decide (least ≤ n0)), .imp (decide (least ≤ n0)) (decide (least ≤ n0)), .imp (decide (least ≤ n0)) (decide (least ≤ n0))] S (by kernel_rfl) (by kernel_rfl) (by kernel_rfl) ⟨fun h => h, fun h => h, fun h => h, trivial⟩ ?_
  clear S; intro E a w S
  refine wp_ret ?_
  have h := Option.some.inj h
  subst h
  exact sym_ret lay_ok [.v (.bool (decide (least ≤ n0) && decide (n0 ≤ most)))] (by kernel_rfl) rfl S ⟨rfl, S.below rfl⟩
def wormtubref05_mix (t : Int) (f : Int) (u : Int) (g : Int) : Option (Int × Int) :=
grd (InI64 (t * f) ∧ InI64 (u * g) ∧ InI64 ((t * f) + (u * g)) ∧ InI64 (f + g)) <|
some (((t * f) + (u * g)), (f + g))
set_option maxRecDepth 100000 in
set_option maxHeartbeats 4000000 in
theorem wormtubref05_mix_ok (t : Int) (f : Int) (u : Int) (g : Int) (W : World)  (res : Int × Int) (h : wormtubref05_mix t f u g = some res) :
    Calls Go.Proofs.Try.prog 66 #[.int .i64 t, .int .i64 f, .int .i64 u, .int .i64 g] W fun e w' => e = .returned (.tuple #[.int .i64 res.1, .int .i64 res.2]) ∧ Below W.heap.size W w' := by
  refine sym_call (f := 66) (fn := Go.Proofs.Try.f66) (c := Go.Proofs.Try.f66.body.get rfl) Go.Proofs.Try.func66 rfl [iv (t), iv (f), iv (u), iv (g)] [] [] (envOf []) allR (fun _ _ => rfl) (by kernel_rfl) (envOf_one trivial) trivial (AllRR.all _ _) trivial fun E a w S => ?_
  rw [wormtubref05_mix] at h
  refine sym_seq lay_ok mixed [] [0, 1, 2, 3] [] (⟨[(0, iv (t)), (1, iv (f)), (2, iv (u)), (3, iv (g))], ⟨[], [], []⟩⟩) [] S (by kernel_rfl) (by kernel_rfl) (by kernel_rfl) trivial ?_
  clear S; intro E a w S
  obtain ⟨⟨g1, g2, g3, g4⟩, h⟩ := grd_some h
  refine sym_seq lay_ok mixed [] [8, 9] [] (⟨[(8, iv (((t * f) + (u * g)))), (9, iv ((f + g)))], ⟨[], [], []⟩⟩) [.rng .i64 (t * f), .rng .i64 (u * g), .rng .i64 ((t * f) + (u * g)), .rng .i64 (f + g)] S (by kernel_rfl) (by kernel_rfl) (by kernel_rfl) ⟨rngI64 g1, rngI64 g2, rngI64 g3, rngI64 g4, trivial⟩ ?_
  clear S; intro E a w S
  refine wp_ret ?_
  have h := Option.some.inj h
  subst h
  exact sym_ret lay_ok [iv (((t * f) + (u * g))), iv ((f + g))] (by kernel_rfl) rfl S ⟨rfl, S.below rfl⟩
def wormtubref05_up (a0 : Int) (b : Int) : Option Int :=
grd (InI64 (a0 + b) ∧ InI64 ((a0 + b) - 1) ∧ ¬ b = 0 ∧ InI64 (((a0 + b) - 1).tdiv b)) <|
some (((a0 + b) - 1).tdiv b)
set_option maxRecDepth 100000 in
set_option maxHeartbeats 4000000 in
theorem wormtubref05_up_ok (a0 : Int) (b : Int) (W : World)  (res : Int) (h : wormtubref05_up a0 b = some res) :
    Calls Go.Proofs.Try.prog 67 #[.int .i64 a0, .int .i64 b] W fun e w' => e = .returned (.int .i64 res) ∧ Below W.heap.size W w' := by
  refine sym_call (f := 67) (fn := Go.Proofs.Try.f67) (c := Go.Proofs.Try.f67.body.get rfl) Go.Proofs.Try.func67 rfl [iv (a0), iv (b)] [] [] (envOf []) allR (fun _ _ => rfl) (by kernel_rfl) (envOf_one trivial) trivial (AllRR.all _ _) trivial fun E a w S => ?_
  rw [wormtubref05_up] at h
  refine sym_seq lay_ok mixed [] [0, 1] [] (⟨[(0, iv (a0)), (1, iv (b))], ⟨[], [], []⟩⟩) [] S (by kernel_rfl) (by kernel_rfl) (by kernel_rfl) trivial ?_
  clear S; intro E a w S
  obtain ⟨⟨g1, g2, g3, g4⟩, h⟩ := grd_some h
  refine sym_seq lay_ok mixed [] [4] [] (⟨[(4, iv ((((a0 + b) - 1).tdiv b)))], ⟨[], [], []⟩⟩) [.rng .i64 (a0 + b), .rng .i64 ((a0 + b) - 1), .nz b, .rng .i64 (((a0 + b) - 1).tdiv b)] S (by kernel_rfl) (by kernel_rfl) (by kernel_rfl) ⟨rngI64 g1, rngI64 g2, g3, rngI64 g4, trivial⟩ ?_
  clear S; intro E a w S
  refine wp_ret ?_
  have h := Option.some.inj h
  subst h
  exact sym_ret lay_ok [iv ((((a0 + b) - 1).tdiv b))] (by kernel_rfl) rfl S ⟨rfl, S.below rfl⟩
def wormtubref05_behind (w0 : MWater) (p : MPoint) : Option MWater :=
(bif (p.kind == 0) then
(grd (InI64 (w0.flow.lo + p.flow.lo) ∧ InI64 (w0.flow.hi + p.flow.hi)) <|
(bif decide (p.warm.lo < w0.warm.lo) then
(some (w0.flow.lo, p.flow.hi))
else
(some (w0.flow.hi, p.flow.lo))).bind fun (j1 : Int × Int) =>
(wormtubref05_mix w0.warm.lo j1.1 p.warm.lo j1.2).bind fun (r1 : (Int × Int)) =>
grd (¬ r1.2 = 0 ∧ InI64 (r1.1.tdiv r1.2)) <|
(bif decide (p.warm.hi < w0.warm.hi) then
(some (w0.flow.hi, p.flow.lo))
else
(some (w0.flow.lo, p.flow.hi))).bind fun (j2 : Int × Int) =>
(wormtubref05_mix w0.warm.hi j2.1 p.warm.hi j2.2).bind fun (r2 : (Int × Int)) =>
(wormtubref05_up r2.1 r2.2).bind fun (r3 : Int) =>
some (MWater.mk (MSpan.mk (w0.flow.lo + p.flow.lo) (w0.flow.hi + p.flow.hi)) (MSpan.mk (r1.1.tdiv r1.2) r3)))
else
((bif (p.kind == 1) then
(grd (InI64 (w0.flow.lo - p.flow.hi) ∧ InI64 (w0.flow.hi - p.flow.lo)) <|
some (MWater.mk (MSpan.mk (w0.flow.lo - p.flow.hi) (w0.flow.hi - p.flow.lo)) (MSpan.mk w0.warm.lo w0.warm.hi)))
else
((bif (p.kind == 2) then
(grd (¬ w0.flow.hi = 0 ∧ InI64 (p.heat.lo.tdiv w0.flow.hi) ∧ InI64 (w0.warm.lo + (p.heat.lo.tdiv w0.flow.hi))) <|
(wormtubref05_up p.heat.hi w0.flow.lo).bind fun (r4 : Int) =>
grd (InI64 (w0.warm.hi + r4)) <|
some (MWater.mk (MSpan.mk w0.flow.lo w0.flow.hi) (MSpan.mk (w0.warm.lo + (p.heat.lo.tdiv w0.flow.hi)) (w0.warm.hi + r4))))
else
((bif (p.kind == 3) then
((bif decide (p.warm.lo < w0.warm.lo) then
(some p.share.hi)
else
(some p.share.lo)).bind fun (j3 : Int) =>
grd (InI64 (10000 - j3)) <|
(wormtubref05_mix w0.warm.lo (10000 - j3) p.warm.lo j3).bind fun (r5 : (Int × Int)) =>
grd (¬ r5.2 = 0 ∧ InI64 (r5.1.tdiv r5.2)) <|
(bif decide (p.warm.hi < w0.warm.hi) then
(some p.share.lo)
else
(some p.share.hi)).bind fun (j4 : Int) =>
grd (InI64 (10000 - j4)) <|
(wormtubref05_mix w0.warm.hi (10000 - j4) p.warm.hi j4).bind fun (r6 : (Int × Int)) =>
(wormtubref05_up r6.1 r6.2).bind fun (r7 : Int) =>
some (MWater.mk (MSpan.mk w0.flow.lo w0.flow.hi) (MSpan.mk (r5.1.tdiv r5.2) r7)))
else
(some (MWater.mk (MSpan.mk w0.flow.lo w0.flow.hi) (MSpan.mk w0.warm.lo w0.warm.hi))))))))))
set_option maxRecDepth 100000 in
set_option maxHeartbeats 4000000 in
theorem wormtubref05_behind_ok (w0 : MWater) (p : MPoint) (W : World)  (res : MWater) (h : wormtubref05_behind w0 p = some res) :
    Calls Go.Proofs.Try.prog 56 #[.agg #[.int .i64 w0.flow.lo, .int .i64 w0.flow.hi, .int .i64 w0.warm.lo, .int .i64 w0.warm.hi], .agg #[.int .i64 p.kind, .int .i64 p.flow.lo, .int .i64 p.flow.hi, .int .i64 p.warm.lo, .int .i64 p.warm.hi, .int .i64 p.heat.lo, .int .i64 p.heat.hi, .int .i64 p.share.lo, .int .i64 p.share.hi]] W fun e w' => e = .returned (.agg #[.int .i64 res.flow.lo, .int .i64 res.flow.hi, .int .i64 res.warm.lo, .int .i64 res.warm.hi]) ∧ Below W.heap.size W w' := by
  refine sym_call (f := 56) (fn := Go.Proofs.Try.f56) (c := Go.Proofs.Try.f56.body.get rfl) Go.Proofs.Try.func56 rfl [.agg [iv (w0.flow.lo), iv (w0.flow.hi), iv (w0.warm.lo), iv (w0.warm.hi)], .agg [iv (p.kind), iv (p.flow.lo), iv (p.flow.hi), iv (p.warm.lo), iv (p.warm.hi), iv (p.heat.lo), iv (p.heat.hi), iv (p.share.lo), iv (p.share.hi)]] [] [] (envOf []) allR (fun _ _ => rfl) (by kernel_rfl) (envOf_one trivial) trivial (AllRR.all _ _) trivial fun E a w S => ?_
  rw [wormtubref05_behind] at h
  refine sym_seq lay_ok mixed [(0, { g := 0 }), (1, { g := 1 }), (2, { g := 2 })] [2, 3, 4] [0, 1, 2] (⟨[(2, .own 0 0), (3, .own 1 0), (4, .own 2 0)], ⟨[(0, .blk 25 [iv (w0.flow.lo), iv (w0.flow.hi), iv (w0.warm.lo), iv (w0.warm.hi)]), (1, .blk 47 [iv (p.kind), iv (p.flow.lo), iv (p.flow.hi), iv (p.warm.lo), iv (p.warm.hi), iv (p.heat.lo), iv (p.heat.hi), iv (p.share.lo), iv (p.share.hi)]), (2, .blk 25 [iv (0), iv (0), iv (0), iv (0)])], [], []⟩⟩) [] S (by kernel_rfl) (by kernel_rfl) (by kernel_rfl) trivial ?_
  clear S; intro E a w S
  refine sym_seq lay_ok mixed [(1, { g := 3 })] [2, 3, 4, 5] [0, 1, 2, 3] (⟨[(2, .own 0 0), (3, .own 1 0), (4, .own 2 0), (5, .own 3 0)], ⟨[(0, .blk 25 [iv (w0.flow.lo), iv (w0.flow.hi), iv (w0.warm.lo), iv (w0.warm.hi)]), (1, .blk 47 [iv (p.kind), iv (p.flow.lo), iv (p.flow.hi), iv (p.warm.lo), iv (p.warm.hi), iv (p.heat.lo), iv (p.heat.hi), iv (p.share.lo), iv (p.share.hi)]), (2, .blk 25 [iv (0), iv (0), iv (0), iv (0)]), (3, .blk 25 [iv (w0.flow.lo), iv (w0.flow.hi), iv (w0.warm.lo), iv (w0.warm.hi)])], [], []⟩⟩) [] S (by kernel_rfl) (by kernel_rfl) (by kernel_rfl) trivial ?_
  clear S; intro E a w S
  refine wp_seq ?_
  refine sym_seq lay_ok mixed [] [2, 3, 4, 5, 15] [0, 1, 2, 3] (⟨[(2, .own 0 0), (3, .own 1 0), (4, .own 2 0), (5, .own 3 0), (15, iv (p.kind))], ⟨[(0, .blk 25 [iv (w0.flow.lo), iv (w0.flow.hi), iv (w0.warm.lo), iv (w0.warm.hi)]), (1, .blk 47 [iv (p.kind), iv (p.flow.lo), iv (p.flow.hi), iv (p.warm.lo), iv (p.warm.hi), iv (p.heat.lo), iv (p.heat.hi), iv (p.share.lo), iv (p.share.hi)]), (2, .blk 25 [iv (0), iv (0), iv (0), iv (0)]), (3, .blk 25 [iv (w0.flow.lo), iv (w0.flow.hi), iv (w0.warm.lo), iv (w0.warm.hi)])], [], []⟩⟩) [] S (by kernel_rfl) (by kernel_rfl) (by kernel_rfl) trivial ?_
  clear S; intro E a w S
  refine wp_block ?_
  refine sym_seq lay_ok mixed [] [2, 3, 4, 5, 15, 16] [0, 1, 2, 3] (⟨[(2, .own 0 0), (3, .own 1 0), (4, .own 2 0), (5, .own 3 0), (15, iv (p.kind)), (16, .v (.bool (p.kind == 0)))], ⟨[(0, .blk 25 [iv (w0.flow.lo), iv (w0.flow.hi), iv (w0.warm.lo), iv (w0.warm.hi)]), (1, .blk 47 [iv (p.kind), iv (p.flow.lo), iv (p.flow.hi), iv (p.warm.lo), iv (p.warm.hi), iv (p.heat.lo), iv (p.heat.hi), iv (p.share.lo), iv (p.share.hi)]), (2, .blk 25 [iv (0), iv (0), iv (0), iv (0)]), (3, .blk 25 [iv (w0.flow.lo), iv (w0.flow.hi), iv (w0.warm.lo), iv (w0.warm.hi)])], [], []⟩⟩) [] S (by kernel_rfl) (by kernel_rfl) (by kernel_rfl) trivial ?_
  clear S; intro E a w S
  refine sym_if_last (b := (p.kind == 0)) S rfl (fun hb1 => ?_) (fun hb1 => ?_)
  · have h := bif_t hb1 h
    obtain ⟨⟨g1, g2⟩, h⟩ := grd_some h
    refine sym_seq lay_ok mixed [] [2, 3, 4, 5] [0, 1, 2, 3] (⟨[(2, .own 0 0), (3, .own 1 0), (4, .own 2 0), (5, .own 3 0)], ⟨[(0, .blk 25 [iv (w0.flow.lo), iv (w0.flow.hi), iv (w0.warm.lo), iv (w0.warm.hi)]), (1, .blk 47 [iv (p.kind), iv (p.flow.lo), iv (p.flow.hi), iv (p.warm.lo), iv (p.warm.hi), iv (p.heat.lo), iv (p.heat.hi), iv (p.share.lo), iv (p.share.hi)]), (2, .blk 25 [iv (0), iv (0), iv (0), iv (0)]), (3, .blk 25 [iv ((w0.flow.lo + p.flow.lo)), iv ((w0.flow.hi + p.flow.hi)), iv (w0.warm.lo), iv (w0.warm.hi)])], [], []⟩⟩) [.rng .i64 (w0.flow.lo + p.flow.lo), .rng .i64 (w0.flow.hi + p.flow.hi)] S (by kernel_rfl) (by kernel_rfl) (by kernel_rfl) ⟨rngI64 g1, rngI64 g2, trivial⟩ ?_
    clear S; intro E a w S
    refine sym_seq lay_ok mixed [] [2, 3, 4, 5, 6, 7] [0, 1, 2, 3] (⟨[(2, .own 0 0), (3, .own 1 0), (4, .own 2 0), (5, .own 3 0), (6, iv (w0.flow.hi)), (7, iv (p.flow.lo))], ⟨[(0, .blk 25 [iv (w0.flow.lo), iv (w0.flow.hi), iv (w0.warm.lo), iv (w0.warm.hi)]), (1, .blk 47 [iv (p.kind), iv (p.flow.lo), iv (p.flow.hi), iv (p.warm.lo), iv (p.warm.hi), iv (p.heat.lo), iv (p.heat.hi), iv (p.share.lo), iv (p.share.hi)]), (2, .blk 25 [iv (0), iv (0), iv (0), iv (0)]), (3, .blk 25 [iv ((w0.flow.lo + p.flow.lo)), iv ((w0.flow.hi + p.flow.hi)), iv (w0.warm.lo), iv (w0.warm.hi)])], [], []⟩⟩) [] S (by kernel_rfl) (by kernel_rfl) (by kernel_rfl) trivial ?_
    clear S; intro E a w S
    refine wp_seq ?_
    refine sym_seq lay_ok mixed [] [2, 3, 4, 5, 6, 7, 46] [0, 1, 2, 3] (⟨[(2, .own 0 0), (3, .own 1 0), (4, .own 2 0), (5, .own 3 0), (6, iv (w0.flow.hi)), (7, iv (p.flow.lo)), (46, .v (.bool (decide (p.warm.lo < w0.warm.lo))))], ⟨[(0, .blk 25 [iv (w0.flow.lo), iv (w0.flow.hi), iv (w0.warm.lo), iv (w0.warm.hi)]), (1, .blk 47 [iv (p.kind), iv (p.flow.lo), iv (p.flow.hi), iv (p.warm.lo), iv (p.warm.hi), iv (p.heat.lo), iv (p.heat.hi), iv (p.share.lo), iv (p.share.hi)]), (2, .blk 25 [iv (0), iv (0), iv (0), iv (0)]), (3, .blk 25 [iv ((w0.flow.lo + p.flow.lo)), iv ((w0.flow.hi + p.flow.hi)), iv (w0.warm.lo), iv (w0.warm.hi)])], [], []⟩⟩) [] S (by kernel_rfl) (by kernel_rfl) (by kernel_rfl) trivial ?_
    clear S; intro E a w S
    obtain ⟨j1, e5, h⟩ := bind_some h
    refine sym_meet_last (b := decide (p.warm.lo < w0.warm.lo)) (⟨[(2, .own 0 0), (3, .own 1 0), (4, .own 2 0), (5, .own 3 0), (6, iv (j1.1)), (7, iv (j1.2))], ⟨[(0, .blk 25 [iv (w0.flow.lo), iv (w0.flow.hi), iv (w0.warm.lo), iv (w0.warm.hi)]), (1, .blk 47 [iv (p.kind), iv (p.flow.lo), iv (p.flow.hi), iv (p.warm.lo), iv (p.warm.hi), iv (p.heat.lo), iv (p.heat.hi), iv (p.share.lo), iv (p.share.hi)]), (2, .blk 25 [iv (0), iv (0), iv (0), iv (0)]), (3, .blk 25 [iv ((w0.flow.lo + p.flow.lo)), iv ((w0.flow.hi + p.flow.hi)), iv (w0.warm.lo), iv (w0.warm.hi)])], [], []⟩⟩) S rfl (fun hb2 => ?_) (fun hb2 => ?_) ?_
    · clear h; have h := bif_t hb2 e5
      refine sym_last lay_ok mixed [] [2, 3, 4, 5, 6, 7] [0, 1, 2, 3] (⟨[(2, .own 0 0), (3, .own 1 0), (4, .own 2 0), (5, .own 3 0), (6, iv (w0.flow.lo)), (7, iv (p.flow.hi))], ⟨[(0, .blk 25 [iv (w0.flow.lo), iv (w0.flow.hi), iv (w0.warm.lo), iv (w0.warm.hi)]), (1, .blk 47 [iv (p.kind), iv (p.flow.lo), iv (p.flow.hi), iv (p.warm.lo), iv (p.warm.hi), iv (p.heat.lo), iv (p.heat.hi), iv (p.share.lo), iv (p.share.hi)]), (2, .blk 25 [iv (0), iv (0), iv (0), iv (0)]), (3, .blk 25 [iv ((w0.flow.lo + p.flow.lo)), iv ((w0.flow.hi + p.flow.hi)), iv (w0.warm.lo), iv (w0.warm.hi)])], [], []⟩⟩) [] S (by kernel_rfl) (by kernel_rfl) (by kernel_rfl) trivial ?_
      clear S; intro E a w S
      have hj := Option.some.inj h
      subst hj
      refine out_then_normal ?_
      exact ⟨_, St.cast (P := Go.Proofs.Try.prog) [] [] [2, 3, 4, 5, 6, 7] [0, 1, 2, 3] [] _ [] (by kernel_rfl) trivial S⟩
    · clear h; have h := bif_f hb2 e5
      refine wp_skip ?_
      have hj := Option.some.inj h
      subst hj
      refine out_then_normal ?_
      exact ⟨_, St.cast (P := Go.Proofs.Try.prog) [] [] [2, 3, 4, 5, 6, 7] [0, 1, 2, 3] [] _ [] (by kernel_rfl) trivial S⟩
    clear S; intro E a w S
    refine out_then_normal ?_
    obtain ⟨r1, e1, h⟩ := bind_some h
    refine sym_seq lay_ok mixed [(8, { res := .tup [iv (r1.1), iv (r1.2)] })] [2, 3, 4, 5, 8, 9] [0, 1, 2, 3] (⟨[(2, .own 0 0), (3, .own 1 0), (4, .own 2 0), (5, .own 3 0), (8, iv (r1.1)), (9, iv (r1.2))], ⟨[(0, .blk 25 [iv (w0.flow.lo), iv (w0.flow.hi), iv (w0.warm.lo), iv (w0.warm.hi)]), (1, .blk 47 [iv (p.kind), iv (p.flow.lo), iv (p.flow.hi), iv (p.warm.lo), iv (p.warm.hi), iv (p.heat.lo), iv (p.heat.hi), iv (p.share.lo), iv (p.share.hi)]), (2, .blk 25 [iv (0), iv (0), iv (0), iv (0)]), (3, .blk 25 [iv ((w0.flow.lo + p.flow.lo)), iv ((w0.flow.hi + p.flow.hi)), iv (w0.warm.lo), iv (w0.warm.hi)])], [], []⟩⟩) [.call ⟨[], [], []⟩ 66 [iv (w0.warm.lo), iv (j1.1), iv (p.warm.lo), iv (j1.2)] (.tup [iv (r1.1), iv (r1.2)])] S (by kernel_rfl) (by kernel_rfl) (by kernel_rfl) ⟨⟨enters_66, fun _ W _ hm => wormtubref05_mix_ok w0.warm.lo j1.1 p.warm.lo j1.2 W r1 e1⟩, trivial⟩ ?_
    clear S; intro E a w S
    obtain ⟨⟨g3, g4⟩, h⟩ := grd_some h
    refine sym_seq lay_ok mixed [] [2, 3, 4, 5] [0, 1, 2, 3] (⟨[(2, .own 0 0), (3, .own 1 0), (4, .own 2 0), (5, .own 3 0)], ⟨[(0, .blk 25 [iv (w0.flow.lo), iv (w0.flow.hi), iv (w0.warm.lo), iv (w0.warm.hi)]), (1, .blk 47 [iv (p.kind), iv (p.flow.lo), iv (p.flow.hi), iv (p.warm.lo), iv (p.warm.hi), iv (p.heat.lo), iv (p.heat.hi), iv (p.share.lo), iv (p.share.hi)]), (2, .blk 25 [iv (0), iv (0), iv (0), iv (0)]), (3, .blk 25 [iv ((w0.flow.lo + p.flow.lo)), iv ((w0.flow.hi + p.flow.hi)), iv ((r1.1.tdiv r1.2)), iv (w0.warm.hi)])], [], []⟩⟩) [.nz r1.2, .rng .i64 (r1.1.tdiv r1.2)] S (by kernel_rfl) (by kernel_rfl) (by kernel_rfl) ⟨g3, rngI64 g4, trivial⟩ ?_
    clear S; intro E a w S
    refine sym_seq lay_ok mixed [] [2, 3, 4, 5, 6, 7] [0, 1, 2, 3] (⟨[(2, .own 0 0), (3, .own 1 0), (4, .own 2 0), (5, .own 3 0), (6, iv (w0.flow.lo)), (7, iv (p.flow.hi))], ⟨[(0, .blk 25 [iv (w0.flow.lo), iv (w0.flow.hi), iv (w0.warm.lo), iv (w0.warm.hi)]), (1, .blk 47 [iv (p.kind), iv (p.flow.lo), iv (p.flow.hi), iv (p.warm.lo), iv (p.warm.hi), iv (p.heat.lo), iv (p.heat.hi), iv (p.share.lo), iv (p.share.hi)]), (2, .blk 25 [iv (0), iv (0), iv (0), iv (0)]), (3, .blk 25 [iv ((w0.flow.lo + p.flow.lo)), iv ((w0.flow.hi + p.flow.hi)), iv ((r1.1.tdiv r1.2)), iv (w0.warm.hi)])], [], []⟩⟩) [] S (by kernel_rfl) (by kernel_rfl) (by kernel_rfl) trivial ?_
    clear S; intro E a w S
    refine wp_seq ?_
    refine sym_seq lay_ok mixed [] [2, 3, 4, 5, 6, 7, 82] [0, 1, 2, 3] (⟨[(2, .own 0 0), (3, .own 1 0), (4, .own 2 0), (5, .own 3 0), (6, iv (w0.flow.lo)), (7, iv (p.flow.hi)), (82, .v (.bool (decide (p.warm.hi < w0.warm.hi))))], ⟨[(0, .blk 25 [iv (w0.flow.lo), iv (w0.flow.hi), iv (w0.warm.lo), iv (w0.warm.hi)]), (1, .blk 47 [iv (p.kind), iv (p.flow.lo), iv (p.flow.hi), iv (p.warm.lo), iv (p.warm.hi), iv (p.heat.lo), iv (p.heat.hi), iv (p.share.lo), iv (p.share.hi)]), (2, .blk 25 [iv (0), iv (0), iv (0), iv (0)]), (3, .blk 25 [iv ((w0.flow.lo + p.flow.lo)), iv ((w0.flow.hi + p.flow.hi)), iv ((r1.1.tdiv r1.2)), iv (w0.warm.hi)])], [], []⟩⟩) [] S (by kernel_rfl) (by kernel_rfl) (by kernel_rfl) trivial ?_
    clear S; intro E a w S
    obtain ⟨j2, e4, h⟩ := bind_some h
    refine sym_meet_last (b := decide (p.warm.hi < w0.warm.hi)) (⟨[(2, .own 0 0), (3, .own 1 0), (4, .own 2 0), (5, .own 3 0), (6, iv (j2.1)), (7, iv (j2.2))], ⟨[(0, .blk 25 [iv (w0.flow.lo), iv (w0.flow.hi), iv (w0.warm.lo), iv (w0.warm.hi)]), (1, .blk 47 [iv (p.kind), iv (p.flow.lo), iv (p.flow.hi), iv (p.warm.lo), iv (p.warm.hi), iv (p.heat.lo), iv (p.heat.hi), iv (p.share.lo), iv (p.share.hi)]), (2, .blk 25 [iv (0), iv (0), iv (0), iv (0)]), (3, .blk 25 [iv ((w0.flow.lo + p.flow.lo)), iv ((w0.flow.hi + p.flow.hi)), iv ((r1.1.tdiv r1.2)), iv (w0.warm.hi)])], [], []⟩⟩) S rfl (fun hb3 => ?_) (fun hb3 => ?_) ?_
    · clear h; have h := bif_t hb3 e4
      refine sym_last lay_ok mixed [] [2, 3, 4, 5, 6, 7] [0, 1, 2, 3] (⟨[(2, .own 0 0), (3, .own 1 0), (4, .own 2 0), (5, .own 3 0), (6, iv (w0.flow.hi)), (7, iv (p.flow.lo))], ⟨[(0, .blk 25 [iv (w0.flow.lo), iv (w0.flow.hi), iv (w0.warm.lo), iv (w0.warm.hi)]), (1, .blk 47 [iv (p.kind), iv (p.flow.lo), iv (p.flow.hi), iv (p.warm.lo), iv (p.warm.hi), iv (p.heat.lo), iv (p.heat.hi), iv (p.share.lo), iv (p.share.hi)]), (2, .blk 25 [iv (0), iv (0), iv (0), iv (0)]), (3, .blk 25 [iv ((w0.flow.lo + p.flow.lo)), iv ((w0.flow.hi + p.flow.hi)), iv ((r1.1.tdiv r1.2)), iv (w0.warm.hi)])], [], []⟩⟩) [] S (by kernel_rfl) (by kernel_rfl) (by kernel_rfl) trivial ?_
      clear S; intro E a w S
      have hj := Option.some.inj h
      subst hj
      refine out_then_normal ?_
      exact ⟨_, St.cast (P := Go.Proofs.Try.prog) [] [] [2, 3, 4, 5, 6, 7] [0, 1, 2, 3] [] _ [] (by kernel_rfl) trivial S⟩
    · clear h; have h := bif_f hb3 e4
      refine wp_skip ?_
      have hj := Option.some.inj h
      subst hj
      refine out_then_normal ?_
      exact ⟨_, St.cast (P := Go.Proofs.Try.prog) [] [] [2, 3, 4, 5, 6, 7] [0, 1, 2, 3] [] _ [] (by kernel_rfl) trivial S⟩
    clear S; intro E a w S
    refine out_then_normal ?_
    obtain ⟨r2, e2, h⟩ := bind_some h
    refine sym_seq lay_ok mixed [(8, { res := .tup [iv (r2.1), iv (r2.2)] })] [4, 5, 8, 9] [2, 3] (⟨[(4, .own 2 0), (5, .own 3 0), (8, iv (r2.1)), (9, iv (r2.2))], ⟨[(2, .blk 25 [iv (0), iv (0), iv (0), iv (0)]), (3, .blk 25 [iv ((w0.flow.lo + p.flow.lo)), iv ((w0.flow.hi + p.flow.hi)), iv ((r1.1.tdiv r1.2)), iv (w0.warm.hi)])], [], []⟩⟩) [.call ⟨[], [], []⟩ 66 [iv (w0.warm.hi), iv (j2.1), iv (p.warm.hi), iv (j2.2)] (.tup [iv (r2.1), iv (r2.2)])] S (by kernel_rfl) (by kernel_rfl) (by kernel_rfl) ⟨⟨enters_66, fun _ W _ hm => wormtubref05_mix_ok w0.warm.hi j2.1 p.warm.hi j2.2 W r2 e2⟩, trivial⟩ ?_
    clear S; intro E a w S
    obtain ⟨r3, e3, h⟩ := bind_some h
    refine sym_last lay_ok mixed [(2, { res := iv (r3) })] [4, 5] [2, 3] (⟨[(4, .own 2 0), (5, .own 3 0)], ⟨[(2, .blk 25 [iv (0), iv (0), iv (0), iv (0)]), (3, .blk 25 [iv ((w0.flow.lo + p.flow.lo)), iv ((w0.flow.hi + p.flow.hi)), iv ((r1.1.tdiv r1.2)), iv (r3)])], [], []⟩⟩) [.call ⟨[], [], []⟩ 67 [iv (r2.1), iv (r2.2)] (iv (r3))] S (by kernel_rfl) (by kernel_rfl) (by kernel_rfl) ⟨⟨enters_67, fun _ W _ hm => wormtubref05_up_ok r2.1 r2.2 W r3 e3⟩, trivial⟩ ?_
    clear S; intro E a w S
    refine out_block_normal ?_
    refine out_then_normal ?_
    refine sym_seq lay_ok mixed [] [4] [2] (⟨[(4, .own 2 0)], ⟨[(2, .blk 25 [iv ((w0.flow.lo + p.flow.lo)), iv ((w0.flow.hi + p.flow.hi)), iv ((r1.1.tdiv r1.2)), iv (r3)])], [], []⟩⟩) [] S (by kernel_rfl) (by kernel_rfl) (by kernel_rfl) trivial ?_
    clear S; intro E a w S
    refine wp_ret ?_
    have h := Option.some.inj h
    subst h
    exact sym_ret lay_ok [.agg [iv ((w0.flow.lo + p.flow.lo)), iv ((w0.flow.hi + p.flow.hi)), iv ((r1.1.tdiv r1.2)), iv (r3)]] (by kernel_rfl) rfl S ⟨rfl, S.below rfl⟩
  · have h := bif_f hb1 h
    refine sym_seq lay_ok mixed [] [2, 3, 4, 5, 15, 106] [0, 1, 2, 3] (⟨[(2, .own 0 0), (3, .own 1 0), (4, .own 2 0), (5, .own 3 0), (15, iv (p.kind)), (106, .v (.bool (p.kind == 1)))], ⟨[(0, .blk 25 [iv (w0.flow.lo), iv (w0.flow.hi), iv (w0.warm.lo), iv (w0.warm.hi)]), (1, .blk 47 [iv (p.kind), iv (p.flow.lo), iv (p.flow.hi), iv (p.warm.lo), iv (p.warm.hi), iv (p.heat.lo), iv (p.heat.hi), iv (p.share.lo), iv (p.share.hi)]), (2, .blk 25 [iv (0), iv (0), iv (0), iv (0)]), (3, .blk 25 [iv (w0.flow.lo), iv (w0.flow.hi), iv (w0.warm.lo), iv (w0.warm.hi)])], [], []⟩⟩) [] S (by kernel_rfl) (by kernel_rfl) (by kernel_rfl) trivial ?_
    clear S; intro E a w S
    refine sym_if_last (b := (p.kind == 1)) S rfl (fun hb4 => ?_) (fun hb4 => ?_)
    · have h := bif_t hb4 h
      obtain ⟨⟨g5, g6⟩, h⟩ := grd_some h
      refine sym_last lay_ok mixed [] [4, 5] [2, 3] (⟨[(4, .own 2 0), (5, .own 3 0)], ⟨[(2, .blk 25 [iv (0), iv (0), iv (0), iv (0)]), (3, .blk 25 [iv ((w0.flow.lo - p.flow.hi)), iv ((w0.flow.hi - p.flow.lo)), iv (w0.warm.lo), iv (w0.warm.hi)])], [], []⟩⟩) [.rng .i64 (w0.flow.lo - p.flow.hi), .rng .i64 (w0.flow.hi - p.flow.lo)] S (by kernel_rfl) (by kernel_rfl) (by kernel_rfl) ⟨rngI64 g5, rngI64 g6, trivial⟩ ?_
      clear S; intro E a w S
      refine out_block_normal ?_
      refine out_then_normal ?_
      refine sym_seq lay_ok mixed [] [4] [2] (⟨[(4, .own 2 0)], ⟨[(2, .blk 25 [iv ((w0.flow.lo - p.flow.hi)), iv ((w0.flow.hi - p.flow.lo)), iv (w0.warm.lo), iv (w0.warm.hi)])], [], []⟩⟩) [] S (by kernel_rfl) (by kernel_rfl) (by kernel_rfl) trivial ?_
      clear S; intro E a w S
      refine wp_ret ?_
      have h := Option.some.inj h
      subst h
      exact sym_ret lay_ok [.agg [iv ((w0.flow.lo - p.flow.hi)), iv ((w0.flow.hi - p.flow.lo)), iv (w0.warm.lo), iv (w0.warm.hi)]] (by kernel_rfl) rfl S ⟨rfl, S.below rfl⟩
    · have h := bif_f hb4 h
      refine sym_seq lay_ok mixed [] [2, 3, 4, 5, 15, 124] [0, 1, 2, 3] (⟨[(2, .own 0 0), (3, .own 1 0), (4, .own 2 0), (5, .own 3 0), (15, iv (p.kind)), (124, .v (.bool (p.kind == 2)))], ⟨[(0, .blk 25 [iv (w0.flow.lo), iv (w0.flow.hi), iv (w0.warm.lo), iv (w0.warm.hi)]), (1, .blk 47 [iv (p.kind), iv (p.flow.lo), iv (p.flow.hi), iv (p.warm.lo), iv (p.warm.hi), iv (p.heat.lo), iv (p.heat.hi), iv (p.share.lo), iv (p.share.hi)]), (2, .blk 25 [iv (0), iv (0), iv (0), iv (0)]), (3, .blk 25 [iv (w0.flow.lo), iv (w0.flow.hi), iv (w0.warm.lo), iv (w0.warm.hi)])], [], []⟩⟩) [] S (by kernel_rfl) (by kernel_rfl) (by kernel_rfl) trivial ?_
      clear S; intro E a w S
      refine sym_if_last (b := (p.kind == 2)) S rfl (fun hb5 => ?_) (fun hb5 => ?_)
      · have h := bif_t hb5 h
        obtain ⟨⟨g7, g8, g9⟩, h⟩ := grd_some h
        obtain ⟨r4, e6, h⟩ := bind_some h
        obtain ⟨g10, h⟩ := grd_some h
        refine sym_last lay_ok mixed [(20, { res := iv (r4) })] [4, 5] [2, 3] (⟨[(4, .own 2 0), (5, .own 3 0)], ⟨[(2, .blk 25 [iv (0), iv (0), iv (0), iv (0)]), (3, .blk 25 [iv (w0.flow.lo), iv (w0.flow.hi), iv ((w0.warm.lo + (p.heat.lo.tdiv w0.flow.hi))), iv ((w0.warm.hi + r4))])], [], []⟩⟩) [.nz w0.flow.hi, .rng .i64 (p.heat.lo.tdiv w0.flow.hi), .rng .i64 (w0.warm.lo + (p.heat.lo.tdiv w0.flow.hi)), .call ⟨[], [], []⟩ 67 [iv (p.heat.hi), iv (w0.flow.lo)] (iv (r4)), .rng .i64 (w0.warm.hi + r4)] S (by kernel_rfl) (by kernel_rfl) (by kernel_rfl) ⟨g7, rngI64 g8, rngI64 g9, ⟨enters_67, fun _ W _ hm => wormtubref05_up_ok p.heat.hi w0.flow.lo W r4 e6⟩, rngI64 g10, trivial⟩ ?_
        clear S; intro E a w S
        refine out_block_normal ?_
        refine out_then_normal ?_
        refine sym_seq lay_ok mixed [] [4] [2] (⟨[(4, .own 2 0)], ⟨[(2, .blk 25 [iv (w0.flow.lo), iv (w0.flow.hi), iv ((w0.warm.lo + (p.heat.lo.tdiv w0.flow.hi))), iv ((w0.warm.hi + r4))])], [], []⟩⟩) [] S (by kernel_rfl) (by kernel_rfl) (by kernel_rfl) trivial ?_
        clear S; intro E a w S
        refine wp_ret ?_
        have h := Option.some.inj h
        subst h
        exact sym_ret lay_ok [.agg [iv (w0.flow.lo), iv (w0.flow.hi), iv ((w0.warm.lo + (p.heat.lo.tdiv w0.flow.hi))), iv ((w0.warm.hi + r4))]] (by kernel_rfl) rfl S ⟨rfl, S.below rfl⟩
      · have h := bif_f hb5 h
        refine sym_seq lay_ok mixed [] [2, 3, 4, 5, 150] [0, 1, 2, 3] (⟨[(2, .own 0 0), (3, .own 1 0), (4, .own 2 0), (5, .own 3 0), (150, .v (.bool (p.kind == 3)))], ⟨[(0, .blk 25 [iv (w0.flow.lo), iv (w0.flow.hi), iv (w0.warm.lo), iv (w0.warm.hi)]), (1, .blk 47 [iv (p.kind), iv (p.flow.lo), iv (p.flow.hi), iv (p.warm.lo), iv (p.warm.hi), iv (p.heat.lo), iv (p.heat.hi), iv (p.share.lo), iv (p.share.hi)]), (2, .blk 25 [iv (0), iv (0), iv (0), iv (0)]), (3, .blk 25 [iv (w0.flow.lo), iv (w0.flow.hi), iv (w0.warm.lo), iv (w0.warm.hi)])], [], []⟩⟩) [] S (by kernel_rfl) (by kernel_rfl) (by kernel_rfl) trivial ?_
        clear S; intro E a w S
        refine sym_if_last (b := (p.kind == 3)) S rfl (fun hb6 => ?_) (fun hb6 => ?_)
        · have h := bif_t hb6 h
          refine sym_seq lay_ok mixed [] [2, 3, 4, 5, 10] [0, 1, 2, 3] (⟨[(2, .own 0 0), (3, .own 1 0), (4, .own 2 0), (5, .own 3 0), (10, iv (p.share.lo))], ⟨[(0, .blk 25 [iv (w0.flow.lo), iv (w0.flow.hi), iv (w0.warm.lo), iv (w0.warm.hi)]), (1, .blk 47 [iv (p.kind), iv (p.flow.lo), iv (p.flow.hi), iv (p.warm.lo), iv (p.warm.hi), iv (p.heat.lo), iv (p.heat.hi), iv (p.share.lo), iv (p.share.hi)]), (2, .blk 25 [iv (0), iv (0), iv (0), iv (0)]), (3, .blk 25 [iv (w0.flow.lo), iv (w0.flow.hi), iv (w0.warm.lo), iv (w0.warm.hi)])], [], []⟩⟩) [] S (by kernel_rfl) (by kernel_rfl) (by kernel_rfl) trivial ?_
          clear S; intro E a w S
          refine wp_seq ?_
          refine sym_seq lay_ok mixed [] [2, 3, 4, 5, 10, 161] [0, 1, 2, 3] (⟨[(2, .own 0 0), (3, .own 1 0), (4, .own 2 0), (5, .own 3 0), (10, iv (p.share.lo)), (161, .v (.bool (decide (p.warm.lo < w0.warm.lo))))], ⟨[(0, .blk 25 [iv (w0.flow.lo), iv (w0.flow.hi), iv (w0.warm.lo), iv (w0.warm.hi)]), (1, .blk 47 [iv (p.kind), iv (p.flow.lo), iv (p.flow.hi), iv (p.warm.lo), iv (p.warm.hi), iv (p.heat.lo), iv (p.heat.hi), iv (p.share.lo), iv (p.share.hi)]), (2, .blk 25 [iv (0), iv (0), iv (0), iv (0)]), (3, .blk 25 [iv (w0.flow.lo), iv (w0.flow.hi), iv (w0.warm.lo), iv (w0.warm.hi)])], [], []⟩⟩) [] S (by kernel_rfl) (by kernel_rfl) (by kernel_rfl) trivial ?_
          clear S; intro E a w S
          obtain ⟨j3, e11, h⟩ := bind_some h
          refine sym_meet_last (b := decide (p.warm.lo < w0.warm.lo)) (⟨[(2, .own 0 0), (3, .own 1 0), (4, .own 2 0), (5, .own 3 0), (10, iv (j3))], ⟨[(0, .blk 25 [iv (w0.flow.lo), iv (w0.flow.hi), iv (w0.warm.lo), iv (w0.warm.hi)]), (1, .blk 47 [iv (p.kind), iv (p.flow.lo), iv (p.flow.hi), iv (p.warm.lo), iv (p.warm.hi), iv (p.heat.lo), iv (p.heat.hi), iv (p.share.lo), iv (p.share.hi)]), (2, .blk 25 [iv (0), iv (0), iv (0), iv (0)]), (3, .blk 25 [iv (w0.flow.lo), iv (w0.flow.hi), iv (w0.warm.lo), iv (w0.warm.hi)])], [], []⟩⟩) S rfl (fun hb7 => ?_) (fun hb7 => ?_) ?_
          · clear h; have h := bif_t hb7 e11
            refine sym_last lay_ok mixed [] [2, 3, 4, 5, 10] [0, 1, 2, 3] (⟨[(2, .own 0 0), (3, .own 1 0), (4, .own 2 0), (5, .own 3 0), (10, iv (p.share.hi))], ⟨[(0, .blk 25 [iv (w0.flow.lo), iv (w0.flow.hi), iv (w0.warm.lo), iv (w0.warm.hi)]), (1, .blk 47 [iv (p.kind), iv (p.flow.lo), iv (p.flow.hi), iv (p.warm.lo), iv (p.warm.hi), iv (p.heat.lo), iv (p.heat.hi), iv (p.share.lo), iv (p.share.hi)]), (2, .blk 25 [iv (0), iv (0), iv (0), iv (0)]), (3, .blk 25 [iv (w0.flow.lo), iv (w0.flow.hi), iv (w0.warm.lo), iv (w0.warm.hi)])], [], []⟩⟩) [] S (by kernel_rfl) (by kernel_rfl) (by kernel_rfl) trivial ?_
            clear S; intro E a w S
            have hj := Option.some.inj h
            subst hj
            refine out_then_normal ?_
            exact ⟨_, St.cast (P := Go.Proofs.Try.prog) [] [] [2, 3, 4, 5, 10] [0, 1, 2, 3] [] _ [] (by kernel_rfl) trivial S⟩
          · clear h; have h := bif_f hb7 e11
            refine wp_skip ?_
            have hj := Option.some.inj h
            subst hj
            refine out_then_normal ?_
            exact ⟨_, St.cast (P := Go.Proofs.Try.prog) [] [] [2, 3, 4, 5, 10] [0, 1, 2, 3] [] _ [] (by kernel_rfl) trivial S⟩
          clear S; intro E a w S
          refine out_then_normal ?_
          obtain ⟨g11, h⟩ := grd_some h
          obtain ⟨r5, e7, h⟩ := bind_some h
          refine sym_seq lay_ok mixed [(9, { res := .tup [iv (r5.1), iv (r5.2)] })] [2, 3, 4, 5, 11, 12] [0, 1, 2, 3] (⟨[(2, .own 0 0), (3, .own 1 0), (4, .own 2 0), (5, .own 3 0), (11, iv (r5.1)), (12, iv (r5.2))], ⟨[(0, .blk 25 [iv (w0.flow.lo), iv (w0.flow.hi), iv (w0.warm.lo), iv (w0.warm.hi)]), (1, .blk 47 [iv (p.kind), iv (p.flow.lo), iv (p.flow.hi), iv (p.warm.lo), iv (p.warm.hi), iv (p.heat.lo), iv (p.heat.hi), iv (p.share.lo), iv (p.share.hi)]), (2, .blk 25 [iv (0), iv (0), iv (0), iv (0)]), (3, .blk 25 [iv (w0.flow.lo), iv (w0.flow.hi), iv (w0.warm.lo), iv (w0.warm.hi)])], [], []⟩⟩) [.rng .i64 (10000 - j3), .call ⟨[], [], []⟩ 66 [iv (w0.warm.lo), iv ((10000 - j3)), iv (p.warm.lo), iv (j3)] (.tup [iv (r5.1), iv (r5.2)])] S (by kernel_rfl) (by kernel_rfl) (by kernel_rfl) ⟨rngI64 g11, ⟨enters_66, fun _ W _ hm => wormtubref05_mix_ok w0.warm.lo (10000 - j3) p.warm.lo j3 W r5 e7⟩, trivial⟩ ?_
          clear S; intro E a w S
          obtain ⟨⟨g12, g13⟩, h⟩ := grd_some h
          refine sym_seq lay_ok mixed [] [2, 3, 4, 5] [0, 1, 2, 3] (⟨[(2, .own 0 0), (3, .own 1 0), (4, .own 2 0), (5, .own 3 0)], ⟨[(0, .blk 25 [iv (w0.flow.lo), iv (w0.flow.hi), iv (w0.warm.lo), iv (w0.warm.hi)]), (1, .blk 47 [iv (p.kind), iv (p.flow.lo), iv (p.flow.hi), iv (p.warm.lo), iv (p.warm.hi), iv (p.heat.lo), iv (p.heat.hi), iv (p.share.lo), iv (p.share.hi)]), (2, .blk 25 [iv (0), iv (0), iv (0), iv (0)]), (3, .blk 25 [iv (w0.flow.lo), iv (w0.flow.hi), iv ((r5.1.tdiv r5.2)), iv (w0.warm.hi)])], [], []⟩⟩) [.nz r5.2, .rng .i64 (r5.1.tdiv r5.2)] S (by kernel_rfl) (by kernel_rfl) (by kernel_rfl) ⟨g12, rngI64 g13, trivial⟩ ?_
          clear S; intro E a w S
          refine sym_seq lay_ok mixed [] [2, 3, 4, 5, 10] [0, 1, 2, 3] (⟨[(2, .own 0 0), (3, .own 1 0), (4, .own 2 0), (5, .own 3 0), (10, iv (p.share.hi))], ⟨[(0, .blk 25 [iv (w0.flow.lo), iv (w0.flow.hi), iv (w0.warm.lo), iv (w0.warm.hi)]), (1, .blk 47 [iv (p.kind), iv (p.flow.lo), iv (p.flow.hi), iv (p.warm.lo), iv (p.warm.hi), iv (p.heat.lo), iv (p.heat.hi), iv (p.share.lo), iv (p.share.hi)]), (2, .blk 25 [iv (0), iv (0), iv (0), iv (0)]), (3, .blk 25 [iv (w0.flow.lo), iv (w0.flow.hi), iv ((r5.1.tdiv r5.2)), iv (w0.warm.hi)])], [], []⟩⟩) [] S (by kernel_rfl) (by kernel_rfl) (by kernel_rfl) trivial ?_
          clear S; intro E a w S
          refine wp_seq ?_
          refine sym_seq lay_ok mixed [] [2, 3, 4, 5, 10, 192] [0, 1, 2, 3] (⟨[(2, .own 0 0), (3, .own 1 0), (4, .own 2 0), (5, .own 3 0), (10, iv (p.share.hi)), (192, .v (.bool (decide (p.warm.hi < w0.warm.hi))))], ⟨[(0, .blk 25 [iv (w0.flow.lo), iv (w0.flow.hi), iv (w0.warm.lo), iv (w0.warm.hi)]), (1, .blk 47 [iv (p.kind), iv (p.flow.lo), iv (p.flow.hi), iv (p.warm.lo), iv (p.warm.hi), iv (p.heat.lo), iv (p.heat.hi), iv (p.share.lo), iv (p.share.hi)]), (2, .blk 25 [iv (0), iv (0), iv (0), iv (0)]), (3, .blk 25 [iv (w0.flow.lo), iv (w0.flow.hi), iv ((r5.1.tdiv r5.2)), iv (w0.warm.hi)])], [], []⟩⟩) [] S (by kernel_rfl) (by kernel_rfl) (by kernel_rfl) trivial ?_
          clear S; intro E a w S
          obtain ⟨j4, e10, h⟩ := bind_some h
          refine sym_meet_last (b := decide (p.warm.hi < w0.warm.hi)) (⟨[(2, .own 0 0), (3, .own 1 0), (4, .own 2 0), (5, .own 3 0), (10, iv (j4))], ⟨[(0, .blk 25 [iv (w0.flow.lo), iv (w0.flow.hi), iv (w0.warm.lo), iv (w0.warm.hi)]), (1, .blk 47 [iv (p.kind), iv (p.flow.lo), iv (p.flow.hi), iv (p.warm.lo), iv (p.warm.hi), iv (p.heat.lo), iv (p.heat.hi), iv (p.share.lo), iv (p.share.hi)]), (2, .blk 25 [iv (0), iv (0), iv (0), iv (0)]), (3, .blk 25 [iv (w0.flow.lo), iv (w0.flow.hi), iv ((r5.1.tdiv r5.2)), iv (w0.warm.hi)])], [], []⟩⟩) S rfl (fun hb8 => ?_) (fun hb8 => ?_) ?_
          · clear h; have h := bif_t hb8 e10
            refine sym_last lay_ok mixed [] [2, 3, 4, 5, 10] [0, 1, 2, 3] (⟨[(2, .own 0 0), (3, .own 1 0), (4, .own 2 0), (5, .own 3 0), (10, iv (p.share.lo))], ⟨[(0, .blk 25 [iv (w0.flow.lo), iv (w0.flow.hi), iv (w0.warm.lo), iv (w0.warm.hi)]), (1, .blk 47 [iv (p.kind), iv (p.flow.lo), iv (p.flow.hi), iv (p.warm.lo), iv (p.warm.hi), iv (p.heat.lo), iv (p.heat.hi), iv (p.share.lo), iv (p.share.hi)]), (2, .blk 25 [iv (0), iv (0), iv (0), iv (0)]), (3, .blk 25 [iv (w0.flow.lo), iv (w0.flow.hi), iv ((r5.1.tdiv r5.2)), iv (w0.warm.hi)])], [], []⟩⟩) [] S (by kernel_rfl) (by kernel_rfl) (by kernel_rfl) trivial ?_
            clear S; intro E a w S
            have hj := Option.some.inj h
            subst hj
            refine out_then_normal ?_
            exact ⟨_, St.cast (P := Go.Proofs.Try.prog) [] [] [2, 3, 4, 5, 10] [0, 1, 2, 3] [] _ [] (by kernel_rfl) trivial S⟩
          · clear h; have h := bif_f hb8 e10
            refine wp_skip ?_
            have hj := Option.some.inj h
            subst hj
            refine out_then_normal ?_
            exact ⟨_, St.cast (P := Go.Proofs.Try.prog) [] [] [2, 3, 4, 5, 10] [0, 1, 2, 3] [] _ [] (by kernel_rfl) trivial S⟩
          clear S; intro E a w S
          refine out_then_normal ?_
          obtain ⟨g14, h⟩ := grd_some h
          obtain ⟨r6, e8, h⟩ := bind_some h
          refine sym_seq lay_ok mixed [(9, { res := .tup [iv (r6.1), iv (r6.2)] })] [4, 5, 11, 12] [2, 3] (⟨[(4, .own 2 0), (5, .own 3 0), (11, iv (r6.1)), (12, iv (r6.2))], ⟨[(2, .blk 25 [iv (0), iv (0), iv (0), iv (0)]), (3, .blk 25 [iv (w0.flow.lo), iv (w0.flow.hi), iv ((r5.1.tdiv r5.2)), iv (w0.warm.hi)])], [], []⟩⟩) [.rng .i64 (10000 - j4), .call ⟨[], [], []⟩ 66 [iv (w0.warm.hi), iv ((10000 - j4)), iv (p.warm.hi), iv (j4)] (.tup [iv (r6.1), iv (r6.2)])] S (by kernel_rfl) (by kernel_rfl) (by kernel_rfl) ⟨rngI64 g14, ⟨enters_66, fun _ W _ hm => wormtubref05_mix_ok w0.warm.hi (10000 - j4) p.warm.hi j4 W r6 e8⟩, trivial⟩ ?_
          clear S; intro E a w S
          obtain ⟨r7, e9, h⟩ := bind_some h
          refine sym_last lay_ok mixed [(2, { res := iv (r7) })] [4, 5] [2, 3] (⟨[(4, .own 2 0), (5, .own 3 0)], ⟨[(2, .blk 25 [iv (0), iv (0), iv (0), iv (0)]), (3, .blk 25 [iv (w0.flow.lo), iv (w0.flow.hi), iv ((r5.1.tdiv r5.2)), iv (r7)])], [], []⟩⟩) [.call ⟨[], [], []⟩ 67 [iv (r6.1), iv (r6.2)] (iv (r7))] S (by kernel_rfl) (by kernel_rfl) (by kernel_rfl) ⟨⟨enters_67, fun _ W _ hm => wormtubref05_up_ok r6.1 r6.2 W r7 e9⟩, trivial⟩ ?_
          clear S; intro E a w S
          refine out_block_normal ?_
          refine out_then_normal ?_
          refine sym_seq lay_ok mixed [] [4] [2] (⟨[(4, .own 2 0)], ⟨[(2, .blk 25 [iv (w0.flow.lo), iv (w0.flow.hi), iv ((r5.1.tdiv r5.2)), iv (r7)])], [], []⟩⟩) [] S (by kernel_rfl) (by kernel_rfl) (by kernel_rfl) trivial ?_
          clear S; intro E a w S
          refine wp_ret ?_
          have h := Option.some.inj h
          subst h
          exact sym_ret lay_ok [.agg [iv (w0.flow.lo), iv (w0.flow.hi), iv ((r5.1.tdiv r5.2)), iv (r7)]] (by kernel_rfl) rfl S ⟨rfl, S.below rfl⟩
        · have h := bif_f hb6 h
          refine wp_skip ?_
          refine out_block_normal ?_
          refine out_then_normal ?_
          refine sym_seq lay_ok mixed [] [4] [2] (⟨[(4, .own 2 0)], ⟨[(2, .blk 25 [iv (w0.flow.lo), iv (w0.flow.hi), iv (w0.warm.lo), iv (w0.warm.hi)])], [], []⟩⟩) [] S (by kernel_rfl) (by kernel_rfl) (by kernel_rfl) trivial ?_
          clear S; intro E a w S
          refine wp_ret ?_
          have h := Option.some.inj h
          subst h
          exact sym_ret lay_ok [.agg [iv (w0.flow.lo), iv (w0.flow.hi), iv (w0.warm.lo), iv (w0.warm.hi)]] (by kernel_rfl) rfl S ⟨rfl, S.below rfl⟩
def wormtubref05_Same_R (a0 : List MWater) (b : List MWater) : List (Nat × Q) := [(0, (wQZ a0)), (1, (wQZ b))]
def wormtubref05_Same_k1  (x1 : Unit) : Option Bool :=
some true
def wormtubref05_Same_l1 (a0 : List MWater) (b : List MWater) : Nat → Int → Option (Lp Unit Bool)
  | 0, _ => none
  | n + 1, b1 =>
    (bif decide (b1 < ((a0.length : Nat) : Int)) then
    (grd (((0 : Int) ≤ b1 ∧ (b1 : Int) < ((a0.length : Nat) : Int)) ∧ ((0 : Int) ≤ b1 ∧ (b1 : Int) < ((b.length : Nat) : Int))) <|
    (bif (!(((((a0.getD (Int.toNat b1) default).flow).lo) == (((b.getD (Int.toNat b1) default).flow).lo)) && (((((a0.getD (Int.toNat b1) default).flow).hi) == (((b.getD (Int.toNat b1) default).flow).hi)) && (((((a0.getD (Int.toNat b1) default).warm).lo) == (((b.getD (Int.toNat b1) default).warm).lo)) && ((((a0.getD (Int.toNat b1) default).warm).hi) == (((b.getD (Int.toNat b1) default).warm).hi)))))) then
    (some (Lp.ret false))
    else
    (grd (InI64 (b1 + 1)) <|
    wormtubref05_Same_l1 a0 b n (b1 + 1))))
    else
    (some (Lp.done ())))
def wormtubref05_Same (fuel : Nat) (a0 : List MWater) (b : List MWater) : Option Bool :=
(bif (((a0.length : Nat) : Int) != ((b.length : Nat) : Int)) then
(some false)
else
((wormtubref05_Same_l1 a0 b fuel 0).bind fun lr1 => lr1.go fun x1 => wormtubref05_Same_k1 x1))
set_option maxRecDepth 100000 in
set_option maxHeartbeats 4000000 in
theorem wormtubref05_Same_ok (fuel : Nat) (a0 : List MWater) (b : List MWater) (W : World) (A0 : Option Addr) (c0 : Nat) (h0 : a0.length ≤ c0) (s0 : SlAt W A0 a0.length 4 fun i => wZ (a0.getD i default)) (A1 : Option Addr) (c1 : Nat) (h1 : b.length ≤ c1) (s1 : SlAt W A1 b.length 4 fun i => wZ (b.getD i default)) (res : Bool) (h : wormtubref05_Same fuel a0 b = some res) :
    Calls Go.Proofs.Try.prog 17 #[.slice A0 a0.length c0, .slice A1 b.length c1] W fun e w' => e = .returned (.bool res) ∧ Below W.heap.size W w' := by
  refine sym_call (f := 17) (fn := Go.Proofs.Try.f17) (c := Go.Proofs.Try.f17.body.get rfl) Go.Proofs.Try.func17 rfl [.sl 0, .sl 1] (wormtubref05_Same_R a0 b) [] (envOf [(0, ⟨A0, a0.length, c0, 4⟩), (1, ⟨A1, b.length, c1, 4⟩)]) allR (fun _ _ => rfl) (by kernel_rfl) (envOf_one trivial) ⟨s0.rd h0, s1.rd h1, trivial⟩ (AllRR.all _ _) trivial fun E a w S => ?_
  rw [wormtubref05_Same] at h
  refine sym_seq lay_ok mixed [] [0, 1] [] (⟨[(0, .sl 0), (1, .sl 1)], ⟨[], (wormtubref05_Same_R a0 b), []⟩⟩) [] S (by kernel_rfl) (by kernel_rfl) (by kernel_rfl) trivial ?_
  clear S; intro E a w S
  refine wp_seq ?_
  refine sym_seq lay_ok mixed [] [0, 1, 10] [] (⟨[(0, .sl 0), (1, .sl 1), (10, .v (.bool (((a0.length : Nat) : Int) != ((b.length : Nat) : Int))))], ⟨[], (wormtubref05_Same_R a0 b), []⟩⟩) [] S (by kernel_rfl) (by kernel_rfl) (by kernel_rfl) trivial ?_
  clear S; intro E a w S
  refine sym_if_last (b := (((a0.length : Nat) : Int) != ((b.length : Nat) : Int))) S rfl (fun hb1 => ?_) (fun hb1 => ?_)
  · have h := bif_t hb1 h
    refine sym_seq lay_ok mixed [] [4] [] (⟨[(4, .v (.bool false))], ⟨[], (wormtubref05_Same_R a0 b), []⟩⟩) [] S (by kernel_rfl) (by kernel_rfl) (by kernel_rfl) trivial ?_
    clear S; intro E a w S
    refine wp_ret ?_
    refine out_then_ret ?_
    have h := Option.some.inj h
    subst h
    exact sym_ret lay_ok [.v (.bool false)] (by kernel_rfl) rfl S ⟨rfl, S.below rfl⟩
  · have h := bif_f hb1 h
    refine wp_skip ?_
    refine out_then_normal ?_
    refine wp_seq ?_
    refine sym_seq lay_ok mixed [] [0, 1, 5] [] (⟨[(0, .sl 0), (1, .sl 1), (5, iv (0))], ⟨[], (wormtubref05_Same_R a0 b), []⟩⟩) [] S (by kernel_rfl) (by kernel_rfl) (by kernel_rfl) trivial ?_
    clear S; intro E a w S
    obtain ⟨lr1, e1, hp1⟩ := bind_some h
    clear h
    refine sym_block_last (G := fun a w => ∃ E, ∃ x1 : Unit, wormtubref05_Same_k1 x1 = some res ∧ St ⟨W, noC, Go.Proofs.Try.f17.ntmps, [], allR, noρ, (envOf [(0, ⟨A0, a0.length, c0, 4⟩), (1, ⟨A1, b.length, c1, 4⟩)]).sl, (envOf [(0, ⟨A0, a0.length, c0, 4⟩), (1, ⟨A1, b.length, c1, 4⟩)]).x⟩ (⟨[], ⟨[], (wormtubref05_Same_R a0 b), []⟩⟩) E a w) ?_ ?_
    · refine wp_loop_rounds fuel ?_
      refine sym_rounds (F := fun n b1 => wormtubref05_Same_l1 a0 b n b1 = some lr1) (H := fun b1 => ⟨[(0, .sl 0), (1, .sl 1), (5, iv (b1))], ⟨[], (wormtubref05_Same_R a0 b), []⟩⟩) 0 (fun b hb => by have hb : none = some lr1 := hb; cases hb) ?_ _ _ _ _ e1 (St.cast (P := Go.Proofs.Try.prog) [] [] [0, 1, 5] [] [0, 1] _ [] (by kernel_rfl) trivial S)
      clear e1 S
      intro n b1 E a w h ih S
      rw [wormtubref05_Same_l1] at h
      refine wp_seq ?_
      refine sym_seq lay_ok mixed [] [0, 1, 5, 14] [] (⟨[(0, .sl 0), (1, .sl 1), (5, iv (b1)), (14, .v (.bool (decide (b1 < ((a0.length : Nat) : Int)))))], ⟨[], (wormtubref05_Same_R a0 b), []⟩⟩) [] S (by kernel_rfl) (by kernel_rfl) (by kernel_rfl) trivial ?_
      clear S; intro E a w S
      refine sym_if_last (b := decide (b1 < ((a0.length : Nat) : Int))) S rfl (fun hb2 => ?_) (fun hb2 => ?_)
      · have h := bif_t hb2 h
        refine wp_skip ?_
        refine out_then_normal ?_
        refine wp_seq ?_
        refine wp_block ?_
        obtain ⟨⟨g1, g2⟩, h⟩ := grd_some h
        refine sym_seq lay_ok mixed [] [0, 1, 5, 25] [] (⟨[(0, .sl 0), (1, .sl 1), (5, iv (b1)), (25, .v (.bool (!(((((a0.getD (Int.toNat b1) default).flow).lo) == (((b.getD (Int.toNat b1) default).flow).lo)) && (((((a0.getD (Int.toNat b1) default).flow).hi) == (((b.getD (Int.toNat b1) default).flow).hi)) && (((((a0.getD (Int.toNat b1) default).warm).lo) == (((b.getD (Int.toNat b1) default).warm).lo)) && ((((a0.getD (Int.toNat b1) default).warm).hi) == (((b.getD (Int.toNat b1) default).warm).hi))))))))], ⟨[], (wormtubref05_Same_R a0 b), []⟩⟩) [.idx b1 a0.length, .idx b1 a0.length, .idx b1 b.length, .idx b1 b.length] S (by kernel_rfl) (by kernel_rfl) (by kernel_rfl) ⟨g1, g1, g2, g2, trivial⟩ ?_
        clear S; intro E a w S
        refine sym_if_last (b := (!(((((a0.getD (Int.toNat b1) default).flow).lo) == (((b.getD (Int.toNat b1) default).flow).lo)) && (((((a0.getD (Int.toNat b1) default).flow).hi) == (((b.getD (Int.toNat b1) default).flow).hi)) && (((((a0.getD (Int.toNat b1) default).warm).lo) == (((b.getD (Int.toNat b1) default).warm).lo)) && ((((a0.getD (Int.toNat b1) default).warm).hi) == (((b.getD (Int.toNat b1) default).warm).hi))))))) S rfl (fun hb3 => ?_) (fun hb3 => ?_)
        · have h := bif_t hb3 h
          refine sym_seq lay_ok mixed [] [4] [] (⟨[(4, .v (.bool false))], ⟨[], (wormtubref05_Same_R a0 b), []⟩⟩) [] S (by kernel_rfl) (by kernel_rfl) (by kernel_rfl) trivial ?_
          clear S; intro E a w S
          refine wp_ret ?_
          refine out_block_ret ?_
          refine out_then_ret ?_
          refine out_then_ret ?_
          refine out_block_ret ?_
          refine out_then_ret ?_
          refine out_then_ret ?_
          have hr := Option.some.inj h
          subst hr
          have hr := Option.some.inj hp1
          subst hr
          exact sym_ret lay_ok [.v (.bool false)] (by kernel_rfl) rfl S ⟨rfl, S.below rfl⟩
        · have h := bif_f hb3 h
          refine wp_skip ?_
          refine out_block_normal ?_
          refine out_then_normal ?_
          obtain ⟨g3, h⟩ := grd_some h
          refine sym_last lay_ok mixed [] [0, 1, 5] [] (⟨[(0, .sl 0), (1, .sl 1), (5, iv ((b1 + 1)))], ⟨[], (wormtubref05_Same_R a0 b), []⟩⟩) [.rng .i64 (b1 + 1)] S (by kernel_rfl) (by kernel_rfl) (by kernel_rfl) ⟨rngI64 g3, trivial⟩ ?_
          clear S; intro E a w S
          refine out_then_normal ?_
          exact ih (b1 + 1) _ _ _ h (St.cast (P := Go.Proofs.Try.prog) [] [] [0, 1, 5] [] [0, 1] _ [] (by kernel_rfl) trivial S)
      · have h := bif_f hb2 h
        refine wp_exit ?_
        refine out_then_exit ?_
        refine out_then_exit ?_
        refine out_block_here ?_
        refine out_then_normal ?_
        have hr := Option.some.inj h
        subst hr
        exact ⟨_, (), hp1, St.cast (P := Go.Proofs.Try.prog) [] [] [] [] [0, 1] _ [] (by kernel_rfl) trivial S⟩
    clear e1 S
    rintro a w ⟨E, x1, h, S⟩
    rw [wormtubref05_Same_k1] at h
    refine out_then_normal ?_
    refine sym_seq lay_ok mixed [] [4] [] (⟨[(4, .v (.bool true))], ⟨[], (wormtubref05_Same_R a0 b), []⟩⟩) [] S (by kernel_rfl) (by kernel_rfl) (by kernel_rfl) trivial ?_
    clear S; intro E a w S
    refine wp_ret ?_
    have h := Option.some.inj h
    subst h
    exact sym_ret lay_ok [.v (.bool true)] (by kernel_rfl) rfl S ⟨rfl, S.below rfl⟩
def wormtubref05_Ints_R (a0 : List Int) (b : List Int) : List (Nat × Q) := [(0, (iQZ a0)), (1, (iQZ b))]
def wormtubref05_Ints_k1  (x1 : Unit) : Option Bool :=
some true
def wormtubref05_Ints_l1 (a0 : List Int) (b : List Int) : Nat → Int → Option (Lp Unit Bool)
  | 0, _ => none
  | n + 1, b1 =>
    (bif decide (b1 < ((a0.length : Nat) : Int)) then
    (grd (((0 : Int) ≤ b1 ∧ (b1 : Int) < ((a0.length : Nat) : Int)) ∧ ((0 : Int) ≤ b1 ∧ (b1 : Int) < ((b.length : Nat) : Int))) <|
    (bif ((a0.getD (Int.toNat b1) default) != (b.getD (Int.toNat b1) default)) then
    (some (Lp.ret false))
    else
    (grd (InI64 (b1 + 1)) <|
    wormtubref05_Ints_l1 a0 b n (b1 + 1))))
    else
    (some (Lp.done ())))
def wormtubref05_Ints (fuel : Nat) (a0 : List Int) (b : List Int) : Option Bool :=
(bif (((a0.length : Nat) : Int) != ((b.length : Nat) : Int)) then
(some false)
else
((wormtubref05_Ints_l1 a0 b fuel 0).bind fun lr1 => lr1.go fun x1 => wormtubref05_Ints_k1 x1))
set_option maxRecDepth 100000 in
set_option maxHeartbeats 4000000 in
theorem wormtubref05_Ints_ok (fuel : Nat) (a0 : List Int) (b : List Int) (W : World) (A0 : Option Addr) (c0 : Nat) (h0 : a0.length ≤ c0) (s0 : SlAt W A0 a0.length 1 fun i => [.int .i64 (a0.getD i default)]) (A1 : Option Addr) (c1 : Nat) (h1 : b.length ≤ c1) (s1 : SlAt W A1 b.length 1 fun i => [.int .i64 (b.getD i default)]) (res : Bool) (h : wormtubref05_Ints fuel a0 b = some res) :
    Calls Go.Proofs.Try.prog 18 #[.slice A0 a0.length c0, .slice A1 b.length c1] W fun e w' => e = .returned (.bool res) ∧ Below W.heap.size W w' := by
  refine sym_call (f := 18) (fn := Go.Proofs.Try.f18) (c := Go.Proofs.Try.f18.body.get rfl) Go.Proofs.Try.func18 rfl [.sl 0, .sl 1] (wormtubref05_Ints_R a0 b) [] (envOf [(0, ⟨A0, a0.length, c0, 1⟩), (1, ⟨A1, b.length, c1, 1⟩)]) allR (fun _ _ => rfl) (by kernel_rfl) (envOf_one trivial) ⟨s0.rd h0, s1.rd h1, trivial⟩ (AllRR.all _ _) trivial fun E a w S => ?_
  rw [wormtubref05_Ints] at h
  refine sym_seq lay_ok mixed [] [0, 1] [] (⟨[(0, .sl 0), (1, .sl 1)], ⟨[], (wormtubref05_Ints_R a0 b), []⟩⟩) [] S (by kernel_rfl) (by kernel_rfl) (by kernel_rfl) trivial ?_
  clear S; intro E a w S
  refine wp_seq ?_
  refine sym_seq lay_ok mixed [] [0, 1, 10] [] (⟨[(0, .sl 0), (1, .sl 1), (10, .v (.bool (((a0.length : Nat) : Int) != ((b.length : Nat) : Int))))], ⟨[], (wormtubref05_Ints_R a0 b), []⟩⟩) [] S (by kernel_rfl) (by kernel_rfl) (by kernel_rfl) trivial ?_
  clear S; intro E a w S
  refine sym_if_last (b := (((a0.length : Nat) : Int) != ((b.length : Nat) : Int))) S rfl (fun hb1 => ?_) (fun hb1 => ?_)
  · have h := bif_t hb1 h
    refine sym_seq lay_ok mixed [] [4] [] (⟨[(4, .v (.bool false))], ⟨[], (wormtubref05_Ints_R a0 b), []⟩⟩) [] S (by kernel_rfl) (by kernel_rfl) (by kernel_rfl) trivial ?_
    clear S; intro E a w S
    refine wp_ret ?_
    refine out_then_ret ?_
    have h := Option.some.inj h
    subst h
    exact sym_ret lay_ok [.v (.bool false)] (by kernel_rfl) rfl S ⟨rfl, S.below rfl⟩
  · have h := bif_f hb1 h
    refine wp_skip ?_
    refine out_then_normal ?_
    refine wp_seq ?_
    refine sym_seq lay_ok mixed [] [0, 1, 5] [] (⟨[(0, .sl 0), (1, .sl 1), (5, iv (0))], ⟨[], (wormtubref05_Ints_R a0 b), []⟩⟩) [] S (by kernel_rfl) (by kernel_rfl) (by kernel_rfl) trivial ?_
    clear S; intro E a w S
    obtain ⟨lr1, e1, hp1⟩ := bind_some h
    clear h
    refine sym_block_last (G := fun a w => ∃ E, ∃ x1 : Unit, wormtubref05_Ints_k1 x1 = some res ∧ St ⟨W, noC, Go.Proofs.Try.f18.ntmps, [], allR, noρ, (envOf [(0, ⟨A0, a0.length, c0, 1⟩), (1, ⟨A1, b.length, c1, 1⟩)]).sl, (envOf [(0, ⟨A0, a0.length, c0, 1⟩), (1, ⟨A1, b.length, c1, 1⟩)]).x⟩ (⟨[], ⟨[], (wormtubref05_Ints_R a0 b), []⟩⟩) E a w) ?_ ?_
    · refine wp_loop_rounds fuel ?_
      refine sym_rounds (F := fun n b1 => wormtubref05_Ints_l1 a0 b n b1 = some lr1) (H := fun b1 => ⟨[(0, .sl 0), (1, .sl 1), (5, iv (b1))], ⟨[], (wormtubref05_Ints_R a0 b), []⟩⟩) 0 (fun b hb => by have hb : none = some lr1 := hb; cases hb) ?_ _ _ _ _ e1 (St.cast (P := Go.Proofs.Try.prog) [] [] [0, 1, 5] [] [0, 1] _ [] (by kernel_rfl) trivial S)
      clear e1 S
      intro n b1 E a w h ih S
      rw [wormtubref05_Ints_l1] at h
      refine wp_seq ?_
      refine sym_seq lay_ok mixed [] [0, 1, 5, 14] [] (⟨[(0, .sl 0), (1, .sl 1), (5, iv (b1)), (14, .v (.bool (decide (b1 < ((a0.length : Nat) : Int)))))], ⟨[], (wormtubref05_Ints_R a0 b), []⟩⟩) [] S (by kernel_rfl) (by kernel_rfl) (by kernel_rfl) trivial ?_
      clear S; intro E a w S
      refine sym_if_last (b := decide (b1 < ((a0.length : Nat) : Int))) S rfl (fun hb2 => ?_) (fun hb2 => ?_)
      · have h := bif_t hb2 h
        refine wp_skip ?_
        refine out_then_normal ?_
        refine wp_seq ?_
        refine wp_block ?_
        obtain ⟨⟨g1, g2⟩, h⟩ := grd_some h
        refine sym_seq lay_ok mixed [] [0, 1, 5, 25] [] (⟨[(0, .sl 0), (1, .sl 1), (5, iv (b1)), (25, .v (.bool ((a0.getD (Int.toNat b1) default) != (b.getD (Int.toNat b1) default))))], ⟨[], (wormtubref05_Ints_R a0 b), []⟩⟩) [.idx b1 a0.length, .idx b1 a0.length, .idx b1 b.length, .idx b1 b.length] S (by kernel_rfl) (by kernel_rfl) (by kernel_rfl) ⟨g1, g1, g2, g2, trivial⟩ ?_
        clear S; intro E a w S
        refine sym_if_last (b := ((a0.getD (Int.toNat b1) default) != (b.getD (Int.toNat b1) default))) S rfl (fun hb3 => ?_) (fun hb3 => ?_)
        · have h := bif_t hb3 h
          refine sym_seq lay_ok mixed [] [4] [] (⟨[(4, .v (.bool false))], ⟨[], (wormtubref05_Ints_R a0 b), []⟩⟩) [] S (by kernel_rfl) (by kernel_rfl) (by kernel_rfl) trivial ?_
          clear S; intro E a w S
          refine wp_ret ?_
          refine out_block_ret ?_
          refine out_then_ret ?_
          refine out_then_ret ?_
          refine out_block_ret ?_
          refine out_then_ret ?_
          refine out_then_ret ?_
          have hr := Option.some.inj h
          subst hr
          have hr := Option.some.inj hp1
          subst hr
          exact sym_ret lay_ok [.v (.bool false)] (by kernel_rfl) rfl S ⟨rfl, S.below rfl⟩
        · have h := bif_f hb3 h
          refine wp_skip ?_
          refine out_block_normal ?_
          refine out_then_normal ?_
          obtain ⟨g3, h⟩ := grd_some h
          refine sym_last lay_ok mixed [] [0, 1, 5] [] (⟨[(0, .sl 0), (1, .sl 1), (5, iv ((b1 + 1)))], ⟨[], (wormtubref05_Ints_R a0 b), []⟩⟩) [.rng .i64 (b1 + 1)] S (by kernel_rfl) (by kernel_rfl) (by kernel_rfl) ⟨rngI64 g3, trivial⟩ ?_
          clear S; intro E a w S
          refine out_then_normal ?_
          exact ih (b1 + 1) _ _ _ h (St.cast (P := Go.Proofs.Try.prog) [] [] [0, 1, 5] [] [0, 1] _ [] (by kernel_rfl) trivial S)
      · have h := bif_f hb2 h
        refine wp_exit ?_
        refine out_then_exit ?_
        refine out_then_exit ?_
        refine out_block_here ?_
        refine out_then_normal ?_
        have hr := Option.some.inj h
        subst hr
        exact ⟨_, (), hp1, St.cast (P := Go.Proofs.Try.prog) [] [] [] [] [0, 1] _ [] (by kernel_rfl) trivial S⟩
    clear e1 S
    rintro a w ⟨E, x1, h, S⟩
    rw [wormtubref05_Ints_k1] at h
    refine out_then_normal ?_
    refine sym_seq lay_ok mixed [] [4] [] (⟨[(4, .v (.bool true))], ⟨[], (wormtubref05_Ints_R a0 b), []⟩⟩) [] S (by kernel_rfl) (by kernel_rfl) (by kernel_rfl) trivial ?_
    clear S; intro E a w S
    refine wp_ret ?_
    have h := Option.some.inj h
    subst h
    exact sym_ret lay_ok [.v (.bool true)] (by kernel_rfl) rfl S ⟨rfl, S.below rfl⟩
def wormtublaw05_long_R (l : List MPoint) : List (Nat × Q) := [(0, (pQZ l))]
def wormtublaw05_long (l : List MPoint) : Option Bool :=
some ((decide (30 < ((l.length : Nat) : Int)) && decide (((l.length : Nat) : Int) ≤ 64)) || decide (70 < ((l.length : Nat) : Int)))
set_option maxRecDepth 100000 in
set_option maxHeartbeats 4000000 in
theorem wormtublaw05_long_ok (l : List MPoint) (W : World) (A0 : Option Addr) (c0 : Nat) (h0 : l.length ≤ c0) (s0 : SlAt W A0 l.length 9 fun i => pZ (l.getD i default)) (res : Bool) (h : wormtublaw05_long l = some res) :
    Calls Go.Proofs.Try.prog 11 #[.slice A0 l.length c0] W fun e w' => e = .returned (.bool res) ∧ Below W.heap.size W w' := by
  refine sym_call (f := 11) (fn := Go.Proofs.Try.f11) (c := Go.Proofs.Try.f11.body.get rfl) Go.Proofs.Try.func11 rfl [.sl 0] (wormtublaw05_long_R l) [] (envOf [(0, ⟨A0, l.length, c0, 9⟩)]) allR (fun _ _ => rfl) (by kernel_rfl) (envOf_one trivial) ⟨s0.rd h0, trivial⟩ (AllRR.all _ _) trivial fun E a w S => ?_
  rw [wormtublaw05_long] at h
  refine sym_seq lay_ok mixed [] [0] [] (⟨[(0, .sl 0)], ⟨[], (wormtublaw05_long_R l), []⟩⟩) [] S (by kernel_rfl) (by kernel_rfl) (by kernel_rfl) trivial ?_
  clear S; intro E a w S
  refine sym_seq lay_ok mixed [(4, { og := true }), (5, { og := true }), (6, { og := true }), (7, { pk := true }), (9, { og := true }), (10, { og := true }), (11, { og := true }), (12, { pk := true })] [2] [] (⟨[(2, .v (.bool ((decide (30 < ((l.length : Nat) : Int)) && decide (((l.length : Nat) : Int) ≤ 64)) || decide (70 < ((l.length : Nat) : Int)))))], ⟨[], (wormtublaw05_long_R l), []⟩⟩) [.imp (decide (30 < ((l.length : Nat) : Int))) (decide (30 < ((l.length : Nat) : Int))), .imp (decide (30 < ((l.length : Nat) : Int))) (decide (30 < ((l.length : Nat) : Int))), .imp (decide (30 < ((l.length : Nat) : Int))) (decide (30 < ((l.length : Nat) : Int))), .imp (!(decide (30 < ((l.length : Nat) : Int)) && decide (((l.length : Nat) : Int) ≤ 64))) (!(decide (30 < ((l.length : Nat) : Int)) && decide (((l.length : Nat) : Int) ≤ 64))), .imp (!(decide (30 < ((l.length : Nat) : Int)) && decide (((l.length : Nat) : Int) ≤ 64))) (!(decide (30 < ((l.length : Nat) : Int)) && decide (((l.length : Nat) : Int) ≤ 64))), .imp (!(decide (30 < ((l.length : Nat) : Int)) && decide (((l.length : Nat) : Int) ≤ 64))) (!(decide (30 < ((l.length : Nat) : Int)) && decide (((l.length : Nat) : Int) ≤ 64)))] S (by kernel_rfl) (by kernel_rfl) (by kernel_rfl) ⟨fun h => h, fun h => h, fun h => h, fun h => h, fun h => h, fun h => h, trivial⟩ ?_
  clear S; intro E a w S
  refine wp_ret ?_
  have h := Option.some.inj h
  subst h
  exact sym_ret lay_ok [.v (.bool ((decide (30 < ((l.length : Nat) : Int)) && decide (((l.length : Nat) : Int) ≤ 64)) || decide (70 < ((l.length : Nat) : Int))))] (by kernel_rfl) rfl S ⟨rfl, S.below rfl⟩
def wormtublaw05_pick (s : MSpan) (by' : Int) : Option Int :=
grd (InI64 by' ∧ InI64 (s.hi - s.lo) ∧ InI64 ((s.hi - s.lo) + 1) ∧ ¬ ((s.hi - s.lo) + 1) = 0 ∧ InI64 (s.lo + (by'.tmod ((s.hi - s.lo) + 1)))) <|
some (s.lo + (by'.tmod ((s.hi - s.lo) + 1)))
set_option maxRecDepth 100000 in
set_option maxHeartbeats 4000000 in
theorem wormtublaw05_pick_ok (s : MSpan) (by' : Int) (W : World)  (res : Int) (h : wormtublaw05_pick s by' = some res) :
    Calls Go.Proofs.Try.prog 25 #[.agg #[.int .i64 s.lo, .int .i64 s.hi], .int .u32 by'] W fun e w' => e = .returned (.int .i64 res) ∧ Below W.heap.size W w' := by
  refine sym_call (f := 25) (fn := Go.Proofs.Try.f25) (c := Go.Proofs.Try.f25.body.get rfl) Go.Proofs.Try.func25 rfl [.agg [iv (s.lo), iv (s.hi)], .v (.int .u32 by')] [] [] (envOf []) allR (fun _ _ => rfl) (by kernel_rfl) (envOf_one trivial) trivial (AllRR.all _ _) trivial fun E a w S => ?_
  rw [wormtublaw05_pick] at h
  refine sym_seq lay_ok mixed [(0, { g := 0 })] [1, 2] [0] (⟨[(1, .v (.int .u32 by')), (2, .own 0 0)], ⟨[(0, .blk 23 [iv (s.lo), iv (s.hi)])], [], []⟩⟩) [] S (by kernel_rfl) (by kernel_rfl) (by kernel_rfl) trivial ?_
  clear S; intro E a w S
  obtain ⟨⟨g1, g2, g3, g4, g5⟩, h⟩ := grd_some h
  refine sym_seq lay_ok mixed [] [4] [] (⟨[(4, iv ((s.lo + (by'.tmod ((s.hi - s.lo) + 1)))))], ⟨[], [], []⟩⟩) [.rng .i64 by', .rng .i64 (s.hi - s.lo), .rng .i64 ((s.hi - s.lo) + 1), .nz ((s.hi - s.lo) + 1), .rng .i64 (s.lo + (by'.tmod ((s.hi - s.lo) + 1)))] S (by kernel_rfl) (by kernel_rfl) (by kernel_rfl) ⟨rngI64 g1, rngI64 g2, rngI64 g3, g4, rngI64 g5, trivial⟩ ?_
  clear S; intro E a w S
  refine wp_ret ?_
  have h := Option.some.inj h
  subst h
  exact sym_ret lay_ok [iv ((s.lo + (by'.tmod ((s.hi - s.lo) + 1))))] (by kernel_rfl) rfl S ⟨rfl, S.below rfl⟩
def wormtublaw05_part (s : MSpan) (by' : Int) (other : Int) : Option MSpan :=
(wormtublaw05_pick s by').bind fun (r1 : Int) =>
grd (InI64 other ∧ InI64 (s.hi - r1) ∧ InI64 ((s.hi - r1) + 1) ∧ ¬ ((s.hi - r1) + 1) = 0 ∧ InI64 (r1 + (other.tmod ((s.hi - r1) + 1)))) <|
some (MSpan.mk r1 (r1 + (other.tmod ((s.hi - r1) + 1))))
set_option maxRecDepth 100000 in
set_option maxHeartbeats 4000000 in
theorem wormtublaw05_part_ok (s : MSpan) (by' : Int) (other : Int) (W : World)  (res : MSpan) (h : wormtublaw05_part s by' other = some res) :
    Calls Go.Proofs.Try.prog 27 #[.agg #[.int .i64 s.lo, .int .i64 s.hi], .int .u32 by', .int .u32 other] W fun e w' => e = .returned (.agg #[.int .i64 res.lo, .int .i64 res.hi]) ∧ Below W.heap.size W w' := by
  refine sym_call (f := 27) (fn := Go.Proofs.Try.f27) (c := Go.Proofs.Try.f27.body.get rfl) Go.Proofs.Try.func27 rfl [.agg [iv (s.lo), iv (s.hi)], .v (.int .u32 by'), .v (.int .u32 other)] [] [] (envOf []) allR (fun _ _ => rfl) (by kernel_rfl) (envOf_one trivial) trivial (AllRR.all _ _) trivial fun E a w S => ?_
  rw [wormtublaw05_part] at h
  refine sym_seq lay_ok mixed [(0, { g := 0 }), (1, { g := 1 })] [1, 2, 3, 6] [0, 1] (⟨[(1, .v (.int .u32 by')), (2, .v (.int .u32 other)), (3, .own 0 0), (6, .own 1 0)], ⟨[(0, .blk 23 [iv (s.lo), iv (s.hi)]), (1, .blk 23 [iv (0), iv (0)])], [], []⟩⟩) [] S (by kernel_rfl) (by kernel_rfl) (by kernel_rfl) trivial ?_
  clear S; intro E a w S
  obtain ⟨r1, e1, h⟩ := bind_some h
  refine sym_seq lay_ok mixed [(2, { res := iv (r1) })] [2, 3, 6, 7] [0, 1] (⟨[(2, .v (.int .u32 other)), (3, .own 0 0), (6, .own 1 0), (7, iv (r1))], ⟨[(0, .blk 23 [iv (s.lo), iv (s.hi)]), (1, .blk 23 [iv (0), iv (0)])], [], []⟩⟩) [.call ⟨[], [], []⟩ 25 [.agg [iv (s.lo), iv (s.hi)], .v (.int .u32 by')] (iv (r1))] S (by kernel_rfl) (by kernel_rfl) (by kernel_rfl) ⟨⟨enters_25, fun _ W _ hm => wormtublaw05_pick_ok s by' W r1 e1⟩, trivial⟩ ?_
  clear S; intro E a w S
  obtain ⟨⟨g1, g2, g3, g4, g5⟩, h⟩ := grd_some h
  refine sym_seq lay_ok mixed [] [6] [1] (⟨[(6, .own 1 0)], ⟨[(1, .blk 23 [iv (r1), iv ((r1 + (other.tmod ((s.hi - r1) + 1))))])], [], []⟩⟩) [.rng .i64 other, .rng .i64 (s.hi - r1), .rng .i64 ((s.hi - r1) + 1), .nz ((s.hi - r1) + 1), .rng .i64 (r1 + (other.tmod ((s.hi - r1) + 1)))] S (by kernel_rfl) (by kernel_rfl) (by kernel_rfl) ⟨rngI64 g1, rngI64 g2, rngI64 g3, g4, rngI64 g5, trivial⟩ ?_
  clear S; intro E a w S
  refine wp_ret ?_
  have h := Option.some.inj h
  subst h
  exact sym_ret lay_ok [.agg [iv (r1), iv ((r1 + (other.tmod ((s.hi - r1) + 1))))]] (by kernel_rfl) rfl S ⟨rfl, S.below rfl⟩
def wormtublaw05_narrow (a0 : MSpan) (b : MSpan) : Option Bool :=
some (decide (b.lo ≤ a0.lo) && decide (a0.hi ≤ b.hi))
set_option maxRecDepth 100000 in
set_option maxHeartbeats 4000000 in
theorem wormtublaw05_narrow_ok (a0 : MSpan) (b : MSpan) (W : World)  (res : Bool) (h : wormtublaw05_narrow a0 b = some res) :
    Calls Go.Proofs.Try.prog 28 #[.agg #[.int .i64 a0.lo, .int .i64 a0.hi], .agg #[.int .i64 b.lo, .int .i64 b.hi]] W fun e w' => e = .returned (.bool res) ∧ Below W.heap.size W w' := by
  refine sym_call (f := 28) (fn := Go.Proofs.Try.f28) (c := Go.Proofs.Try.f28.body.get rfl) Go.Proofs.Try.func28 rfl [.agg [iv (a0.lo), iv (a0.hi)], .agg [iv (b.lo), iv (b.hi)]] [] [] (envOf []) allR (fun _ _ => rfl) (by kernel_rfl) (envOf_one trivial) trivial (AllRR.all _ _) trivial fun E a w S => ?_
  rw [wormtublaw05_narrow] at h
  refine sym_seq lay_ok mixed [(0, { g := 0 }), (1, { g := 1 })] [2, 3] [0, 1] (⟨[(2, .own 0 0), (3, .own 1 0)], ⟨[(0, .blk 23 [iv (a0.lo), iv (a0.hi)]), (1, .blk 23 [iv (b.lo), iv (b.hi)])], [], []⟩⟩) [] S (by kernel_rfl) (by kernel_rfl) (by kernel_rfl) trivial ?_
  clear S; intro E a w S
  refine sym_seq lay_ok mixed [(6, { og := true }), (7, { og := true }), (8, { og := true }), (9, { og := true }), (10, { og := true }), (11, { pk := true })] [4] [] (⟨[(4, .v (.bool (decide (b.lo ≤ a0.lo) && decide (a0.hi ≤ b.hi))))], ⟨[], [], []⟩⟩) [.imp (decide (b.lo ≤ a0.lo)) (decide (b.lo ≤ a0.lo)), .imp (decide (b.lo ≤ a0.lo)) (decide (b.lo ≤ a0.lo)), .imp (decide (b.lo ≤ a0.lo)) (decide (b.lo ≤ a0.lo)), .imp (decide (b.lo ≤ a0.lo)) (decide (b.lo ≤ a0.lo)), .imp (decide (b.lo ≤ a0.lo)) (decide (b.lo ≤ a0.lo))] S (by kernel_rfl) (by kernel_rfl) (by kernel_rfl) ⟨fun h => h, fun h => h, fun h => h, fun h => h, fun h => h, trivial⟩ ?_
  clear S; intro E a w S
  refine wp_ret ?_
  have h := Option.some.inj h
  subst h
  exact sym_ret lay_ok [.v (.bool (decide (b.lo ≤ a0.lo) && decide (a0.hi ≤ b.hi)))] (by kernel_rfl) rfl S ⟨rfl, S.below rfl⟩
def wormtubref05_Rooms_R (room : List Int) : List (Nat × Q) := [(0, (iQZ room))]
def wormtubref05_Rooms_k1 (room : List Int) (x1 : Unit) : Option Bool :=
some (decide (((room.length : Nat) : Int) ≤ 168))
def wormtubref05_Rooms_l1 (room : List Int) : Nat → Int → Option (Lp Unit Bool)
  | 0, _ => none
  | n + 1, b1 =>
    (bif decide (b1 < ((room.length : Nat) : Int)) then
    (grd (((0 : Int) ≤ b1 ∧ (b1 : Int) < ((room.length : Nat) : Int))) <|
    (wormtubref05_in (room.getD (Int.toNat b1) default) 0 8796093022208).bind fun (r1 : Bool) =>
    (bif (!r1) then
    (some (Lp.ret false))
    else
    (grd (InI64 (b1 + 1)) <|
    wormtubref05_Rooms_l1 room n (b1 + 1))))
    else
    (some (Lp.done ())))
def wormtubref05_Rooms (fuel : Nat) (room : List Int) : Option Bool :=
(wormtubref05_Rooms_l1 room fuel 0).bind fun lr1 => lr1.go fun x1 => wormtubref05_Rooms_k1 room x1
set_option maxRecDepth 100000 in
set_option maxHeartbeats 4000000 in
theorem wormtubref05_Rooms_ok (fuel : Nat) (room : List Int) (W : World) (A0 : Option Addr) (c0 : Nat) (h0 : room.length ≤ c0) (s0 : SlAt W A0 room.length 1 fun i => [.int .i64 (room.getD i default)]) (res : Bool) (h : wormtubref05_Rooms fuel room = some res) :
    Calls Go.Proofs.Try.prog 30 #[.slice A0 room.length c0] W fun e w' => e = .returned (.bool res) ∧ Below W.heap.size W w' := by
  refine sym_call (f := 30) (fn := Go.Proofs.Try.f30) (c := Go.Proofs.Try.f30.body.get rfl) Go.Proofs.Try.func30 rfl [.sl 0] (wormtubref05_Rooms_R room) [] (envOf [(0, ⟨A0, room.length, c0, 1⟩)]) allR (fun _ _ => rfl) (by kernel_rfl) (envOf_one trivial) ⟨s0.rd h0, trivial⟩ (AllRR.all _ _) trivial fun E a w S => ?_
  rw [wormtubref05_Rooms] at h
  refine sym_seq lay_ok mixed [] [0] [] (⟨[(0, .sl 0)], ⟨[], (wormtubref05_Rooms_R room), []⟩⟩) [] S (by kernel_rfl) (by kernel_rfl) (by kernel_rfl) trivial ?_
  clear S; intro E a w S
  refine wp_seq ?_
  refine sym_seq lay_ok mixed [] [0, 3] [] (⟨[(0, .sl 0), (3, iv (0))], ⟨[], (wormtubref05_Rooms_R room), []⟩⟩) [] S (by kernel_rfl) (by kernel_rfl) (by kernel_rfl) trivial ?_
  clear S; intro E a w S
  obtain ⟨lr1, e1, hp1⟩ := bind_some h
  clear h
  refine sym_block_last (G := fun a w => ∃ E, ∃ x1 : Unit, wormtubref05_Rooms_k1 room x1 = some res ∧ St ⟨W, noC, Go.Proofs.Try.f30.ntmps, [], allR, noρ, (envOf [(0, ⟨A0, room.length, c0, 1⟩)]).sl, (envOf [(0, ⟨A0, room.length, c0, 1⟩)]).x⟩ (⟨[(0, .sl 0)], ⟨[], (wormtubref05_Rooms_R room), []⟩⟩) E a w) ?_ ?_
  · refine wp_loop_rounds fuel ?_
    refine sym_rounds (F := fun n b1 => wormtubref05_Rooms_l1 room n b1 = some lr1) (H := fun b1 => ⟨[(0, .sl 0), (3, iv (b1))], ⟨[], (wormtubref05_Rooms_R room), []⟩⟩) 0 (fun b hb => by have hb : none = some lr1 := hb; cases hb) ?_ _ _ _ _ e1 (St.cast (P := Go.Proofs.Try.prog) [] [] [0, 3] [] [0] _ [] (by kernel_rfl) trivial S)
    clear e1 S
    intro n b1 E a w h ih S
    rw [wormtubref05_Rooms_l1] at h
    refine wp_seq ?_
    refine sym_seq lay_ok mixed [] [0, 3, 7] [] (⟨[(0, .sl 0), (3, iv (b1)), (7, .v (.bool (decide (b1 < ((room.length : Nat) : Int)))))], ⟨[], (wormtubref05_Rooms_R room), []⟩⟩) [] S (by kernel_rfl) (by kernel_rfl) (by kernel_rfl) trivial ?_
    clear S; intro E a w S
    refine sym_if_last (b := decide (b1 < ((room.length : Nat) : Int))) S rfl (fun hb1 => ?_) (fun hb1 => ?_)
    · have h := bif_t hb1 h
      refine wp_skip ?_
      refine out_then_normal ?_
      refine wp_seq ?_
      refine wp_block ?_
      obtain ⟨g1, h⟩ := grd_some h
      obtain ⟨r1, e2, h⟩ := bind_some h
      refine sym_seq lay_ok mixed [(4, { res := .v (.bool r1) })] [0, 3, 15] [] (⟨[(0, .sl 0), (3, iv (b1)), (15, .v (.bool (!r1)))], ⟨[], (wormtubref05_Rooms_R room), []⟩⟩) [.idx b1 room.length, .idx b1 room.length, .call ⟨[], (wormtubref05_Rooms_R room), []⟩ 39 [iv ((room.getD (Int.toNat b1) default)), iv (0), iv (8796093022208)] (.v (.bool r1))] S (by kernel_rfl) (by kernel_rfl) (by kernel_rfl) ⟨g1, g1, ⟨enters_39, fun _ W _ hm => wormtubref05_in_ok (room.getD (Int.toNat b1) default) 0 8796093022208 W r1 e2⟩, trivial⟩ ?_
      clear S; intro E a w S
      refine sym_if_last (b := (!r1)) S rfl (fun hb2 => ?_) (fun hb2 => ?_)
      · have h := bif_t hb2 h
        refine sym_seq lay_ok mixed [] [2] [] (⟨[(2, .v (.bool false))], ⟨[], (wormtubref05_Rooms_R room), []⟩⟩) [] S (by kernel_rfl) (by kernel_rfl) (by kernel_rfl) trivial ?_
        clear S; intro E a w S
        refine wp_ret ?_
        refine out_block_ret ?_
        refine out_then_ret ?_
        refine out_then_ret ?_
        refine out_block_ret ?_
        refine out_then_ret ?_
        refine out_then_ret ?_
        have hr := Option.some.inj h
        subst hr
        have hr := Option.some.inj hp1
        subst hr
        exact sym_ret lay_ok [.v (.bool false)] (by kernel_rfl) rfl S ⟨rfl, S.below rfl⟩
      · have h := bif_f hb2 h
        refine wp_skip ?_
        refine out_block_normal ?_
        refine out_then_normal ?_
        obtain ⟨g2, h⟩ := grd_some h
        refine sym_last lay_ok mixed [] [0, 3] [] (⟨[(0, .sl 0), (3, iv ((b1 + 1)))], ⟨[], (wormtubref05_Rooms_R room), []⟩⟩) [.rng .i64 (b1 + 1)] S (by kernel_rfl) (by kernel_rfl) (by kernel_rfl) ⟨rngI64 g2, trivial⟩ ?_
        clear S; intro E a w S
        refine out_then_normal ?_
        exact ih (b1 + 1) _ _ _ h (St.cast (P := Go.Proofs.Try.prog) [] [] [0, 3] [] [0] _ [] (by kernel_rfl) trivial S)
    · have h := bif_f hb1 h
      refine wp_exit ?_
      refine out_then_exit ?_
      refine out_then_exit ?_
      refine out_block_here ?_
      refine out_then_normal ?_
      have hr := Option.some.inj h
      subst hr
      exact ⟨_, (), hp1, St.cast (P := Go.Proofs.Try.prog) [] [] [0] [] [0] _ [] (by kernel_rfl) trivial S⟩
  clear e1 S
  rintro a w ⟨E, x1, h, S⟩
  rw [wormtubref05_Rooms_k1] at h
  refine out_then_normal ?_
  refine sym_seq lay_ok mixed [] [2] [] (⟨[(2, .v (.bool (decide (((room.length : Nat) : Int) ≤ 168))))], ⟨[], (wormtubref05_Rooms_R room), []⟩⟩) [] S (by kernel_rfl) (by kernel_rfl) (by kernel_rfl) trivial ?_
  clear S; intro E a w S
  refine wp_ret ?_
  have h := Option.some.inj h
  subst h
  exact sym_ret lay_ok [.v (.bool (decide (((room.length : Nat) : Int) ≤ 168)))] (by kernel_rfl) rfl S ⟨rfl, S.below rfl⟩
def wormtubref05_Burners_R (l : List MBurner) : List (Nat × Q) := [(0, (bQZ l))]
def wormtubref05_Burners_k1 (l : List MBurner) (x1 : Unit) : Option Bool :=
some (decide (((l.length : Nat) : Int) ≤ 6))
def wormtubref05_Burners_l1 (n0 : Int) (l : List MBurner) : Nat → Int → Option (Lp Unit Bool)
  | 0, _ => none
  | n + 1, b1 =>
    (bif decide (b1 < ((l.length : Nat) : Int)) then
    (grd (((0 : Int) ≤ b1 ∧ (b1 : Int) < ((l.length : Nat) : Int))) <|
    grd (((!(((decide (((l.getD (Int.toNat b1) default).ready) < 0) || decide (n0 < ((l.getD (Int.toNat b1) default).due))) || decide (((l.getD (Int.toNat b1) default).hours) < 1)) || decide (((l.getD (Int.toNat b1) default).due) < ((l.getD (Int.toNat b1) default).ready)))) = true → InI64 (((l.getD (Int.toNat b1) default).due) - ((l.getD (Int.toNat b1) default).ready)))) <|
    ((bif (!((((decide (((l.getD (Int.toNat b1) default).ready) < 0) || decide (n0 < ((l.getD (Int.toNat b1) default).due))) || decide (((l.getD (Int.toNat b1) default).hours) < 1)) || decide (((l.getD (Int.toNat b1) default).due) < ((l.getD (Int.toNat b1) default).ready))) || decide ((((l.getD (Int.toNat b1) default).due) - ((l.getD (Int.toNat b1) default).ready)) < ((l.getD (Int.toNat b1) default).hours)))) then wormtubref05_in ((l.getD (Int.toNat b1) default).heat) 0 1099511627776 else some default)).bind fun (r1 : Bool) =>
    (bif (((((decide (((l.getD (Int.toNat b1) default).ready) < 0) || decide (n0 < ((l.getD (Int.toNat b1) default).due))) || decide (((l.getD (Int.toNat b1) default).hours) < 1)) || decide (((l.getD (Int.toNat b1) default).due) < ((l.getD (Int.toNat b1) default).ready))) || decide ((((l.getD (Int.toNat b1) default).due) - ((l.getD (Int.toNat b1) default).ready)) < ((l.getD (Int.toNat b1) default).hours))) || (!r1)) then
    (some (Lp.ret false))
    else
    (grd (InI64 (b1 + 1)) <|
    wormtubref05_Burners_l1 n0 l n (b1 + 1))))
    else
    (some (Lp.done ())))
def wormtubref05_Burners (fuel : Nat) (n0 : Int) (l : List MBurner) : Option Bool :=
(wormtubref05_Burners_l1 n0 l fuel 0).bind fun lr1 => lr1.go fun x1 => wormtubref05_Burners_k1 l x1
set_option maxRecDepth 100000 in
set_option maxHeartbeats 4000000 in
theorem wormtubref05_Burners_ok (fuel : Nat) (n0 : Int) (l : List MBurner) (W : World) (A0 : Option Addr) (c0 : Nat) (h0 : l.length ≤ c0) (s0 : SlAt W A0 l.length 4 fun i => bZ (l.getD i default)) (res : Bool) (h : wormtubref05_Burners fuel n0 l = some res) :
    Calls Go.Proofs.Try.prog 31 #[.int .i64 n0, .slice A0 l.length c0] W fun e w' => e = .returned (.bool res) ∧ Below W.heap.size W w' := by
  refine sym_call (f := 31) (fn := Go.Proofs.Try.f31) (c := Go.Proofs.Try.f31.body.get rfl) Go.Proofs.Try.func31 rfl [iv (n0), .sl 0] (wormtubref05_Burners_R l) [] (envOf [(0, ⟨A0, l.length, c0, 4⟩)]) allR (fun _ _ => rfl) (by kernel_rfl) (envOf_one trivial) ⟨s0.rd h0, trivial⟩ (AllRR.all _ _) trivial fun E a w S => ?_
  rw [wormtubref05_Burners] at h
  refine sym_seq lay_ok mixed [] [0, 1] [] (⟨[(0, iv (n0)), (1, .sl 0)], ⟨[], (wormtubref05_Burners_R l), []⟩⟩) [] S (by kernel_rfl) (by kernel_rfl) (by kernel_rfl) trivial ?_
  clear S; intro E a w S
  refine wp_seq ?_
  refine sym_seq lay_ok mixed [] [0, 1, 5] [] (⟨[(0, iv (n0)), (1, .sl 0), (5, iv (0))], ⟨[], (wormtubref05_Burners_R l), []⟩⟩) [] S (by kernel_rfl) (by kernel_rfl) (by kernel_rfl) trivial ?_
  clear S; intro E a w S
  obtain ⟨lr1, e1, hp1⟩ := bind_some h
  clear h
  refine sym_block_last (G := fun a w => ∃ E, ∃ x1 : Unit, wormtubref05_Burners_k1 l x1 = some res ∧ St ⟨W, noC, Go.Proofs.Try.f31.ntmps, [], allR, noρ, (envOf [(0, ⟨A0, l.length, c0, 4⟩)]).sl, (envOf [(0, ⟨A0, l.length, c0, 4⟩)]).x⟩ (⟨[(1, .sl 0)], ⟨[], (wormtubref05_Burners_R l), []⟩⟩) E a w) ?_ ?_
  · refine wp_loop_rounds fuel ?_
    refine sym_rounds (F := fun n b1 => wormtubref05_Burners_l1 n0 l n b1 = some lr1) (H := fun b1 => ⟨[(0, iv (n0)), (1, .sl 0), (5, iv (b1))], ⟨[], (wormtubref05_Burners_R l), []⟩⟩) 0 (fun b hb => by have hb : none = some lr1 := hb; cases hb) ?_ _ _ _ _ e1 (St.cast (P := Go.Proofs.Try.prog) [] [] [0, 1, 5] [] [0] _ [] (by kernel_rfl) trivial S)
    clear e1 S
    intro n b1 E a w h ih S
    rw [wormtubref05_Burners_l1] at h
    refine wp_seq ?_
    refine sym_seq lay_ok mixed [] [0, 1, 5, 10] [] (⟨[(0, iv (n0)), (1, .sl 0), (5, iv (b1)), (10, .v (.bool (decide (b1 < ((l.length : Nat) : Int)))))], ⟨[], (wormtubref05_Burners_R l), []⟩⟩) [] S (by kernel_rfl) (by kernel_rfl) (by kernel_rfl) trivial ?_
    clear S; intro E a w S
    refine sym_if_last (b := decide (b1 < ((l.length : Nat) : Int))) S rfl (fun hb1 => ?_) (fun hb1 => ?_)
    · have h := bif_t hb1 h
      refine wp_skip ?_
      refine out_then_normal ?_
      refine wp_seq ?_
      refine wp_block ?_
      obtain ⟨g1, h⟩ := grd_some h
      refine sym_seq lay_ok mixed [(4, { g := 1 })] [0, 1, 5, 6] [1] (⟨[(0, iv (n0)), (1, .sl 0), (5, iv (b1)), (6, .own 1 0)], ⟨[(1, .blk 67 [iv (((l.getD (Int.toNat b1) default).ready)), iv (((l.getD (Int.toNat b1) default).due)), iv (((l.getD (Int.toNat b1) default).hours)), iv (((l.getD (Int.toNat b1) default).heat))])], (wormtubref05_Burners_R l), []⟩⟩) [.idx b1 l.length, .idx b1 l.length] S (by kernel_rfl) (by kernel_rfl) (by kernel_rfl) ⟨g1, g1, trivial⟩ ?_
      clear S; intro E a w S
      obtain ⟨g2, h⟩ := grd_some h
      obtain ⟨r1, e2, h⟩ := bind_some h
      refine sym_seq lay_ok mixed [(4, { og := true }), (5, { og := true }), (6, { og := true }), (7, { og := true }), (8, { pk := true }), (10, { og := true }), (11, { og := true }), (12, { og := true }), (13, { pk := true }), (15, { og := true }), (16, { og := true }), (17, { og := true }), (18, { og := true }), (19, { og := true }), (20, { pk := true }), (22, { og := true }), (23, { og := true }), (24, { og := true }), (25, { og := true }), (26, { og := true }), (27, { og := true }), (28, { og := true }), (29, { og := true }), (30, { pk := true }), (32, { og := true }), (33, { og := true }), (34, { og := true, res := .v (.bool r1) }), (35, { og := true }), (36, { pk := true })] [0, 1, 5, 53] [] (⟨[(0, iv (n0)), (1, .sl 0), (5, iv (b1)), (53, .v (.bool (((((decide (((l.getD (Int.toNat b1) default).ready) < 0) || decide (n0 < ((l.getD (Int.toNat b1) default).due))) || decide (((l.getD (Int.toNat b1) default).hours) < 1)) || decide (((l.getD (Int.toNat b1) default).due) < ((l.getD (Int.toNat b1) default).ready))) || decide ((((l.getD (Int.toNat b1) default).due) - ((l.getD (Int.toNat b1) default).ready)) < ((l.getD (Int.toNat b1) default).hours))) || (!r1))))], ⟨[], (wormtubref05_Burners_R l), []⟩⟩) [.imp (!(decide (((l.getD (Int.toNat b1) default).ready) < 0))) (!(decide (((l.getD (Int.toNat b1) default).ready) < 0))), .imp (!(decide (((l.getD (Int.toNat b1) default).ready) < 0))) (!(decide (((l.getD (Int.toNat b1) default).ready) < 0))), .imp (!(decide (((l.getD (Int.toNat b1) default).ready) < 0))) (!(decide (((l.getD (Int.toNat b1) default).ready) < 0))), .imp (!(decide (((l.getD (Int.toNat b1) default).ready) < 0))) (!(decide (((l.getD (Int.toNat b1) default).ready) < 0))), .imp (!(decide (((l.getD (Int.toNat b1) default).ready) < 0) || decide (n0 < ((l.getD (Int.toNat b1) default).due)))) (!(decide (((l.getD (Int.toNat b1) default).ready) < 0) || decide (n0 < ((l.getD (Int.toNat b1) default).due)))), .imp (!(decide (((l.getD (Int.toNat b1) default).ready) < 0) || decide (n0 < ((l.getD (Int.toNat b1) default).due)))) (!(decide (((l.getD (Int.toNat b1) default).ready) < 0) || decide (n0 < ((l.getD (Int.toNat b1) default).due)))), .imp (!(decide (((l.getD (Int.toNat b1) default).ready) < 0) || decide (n0 < ((l.getD (Int.toNat b1) default).due)))) (!(decide (((l.getD (Int.toNat b1) default).ready) < 0) || decide (n0 < ((l.getD (Int.toNat b1) default).due)))), .imp (!((decide (((l.getD (Int.toNat b1) default).ready) < 0) || decide (n0 < ((l.getD (Int.toNat b1) default).due))) || decide (((l.getD (Int.toNat b1) default).hours) < 1))) (!((decide (((l.getD (Int.toNat b1) default).ready) < 0) || decide (n0 < ((l.getD (Int.toNat b1) default).due))) || decide (((l.getD (Int.toNat b1) default).hours) < 1))), .imp (!((decide (((l.getD (Int.toNat b1) default).ready) < 0) || decide (n0 < ((l.getD (Int.toNat b1) default).due))) || decide (((l.getD (Int.toNat b1) default).hours) < 1))) (!((decide (((l.getD (Int.toNat b1) default).ready) < 0) || decide (n0 < ((l.getD (Int.toNat b1) default).due))) || decide (((l.getD (Int.toNat b1) default).hours) < 1))), .imp (!((decide (((l.getD (Int.toNat b1) default).ready) < 0) || decide (n0 < ((l.getD (Int.toNat b1) default).due))) || decide (((l.getD (Int.toNat b1) default).hours) < 1))) (!((decide (((l.getD (Int.toNat b1) default).ready) < 0) || decide (n0 < ((l.getD (Int.toNat b1) default).due))) || decide (((l.getD (Int.toNat b1) default).hours) < 1))), .imp (!((decide (((l.getD (Int.toNat b1) default).ready) < 0) || decide (n0 < ((l.getD (Int.toNat b1) default).due))) || decide (((l.getD (Int.toNat b1) default).hours) < 1))) (!((decide (((l.getD (Int.toNat b1) default).ready) < 0) || decide (n0 < ((l.getD (Int.toNat b1) default).due))) || decide (((l.getD (Int.toNat b1) default).hours) < 1))), .imp (!((decide (((l.getD (Int.toNat b1) default).ready) < 0) || decide (n0 < ((l.getD (Int.toNat b1) default).due))) || decide (((l.getD (Int.toNat b1) default).hours) < 1))) (!((decide (((l.getD (Int.toNat b1) default).ready) < 0) || decide (n0 < ((l.getD (Int.toNat b1) default).due))) || decide (((l.getD (Int.toNat b1) default).hours) < 1))), .imp (!(((decide (((l.getD (Int.toNat b1) default).ready) < 0) || decide (n0 < ((l.getD (Int.toNat b1) default).due))) || decide (((l.getD (Int.toNat b1) default).hours) < 1)) || decide (((l.getD (Int.toNat b1) default).due) < ((l.getD (Int.toNat b1) default).ready)))) (!(((decide (((l.getD (Int.toNat b1) default).ready) < 0) || decide (n0 < ((l.getD (Int.toNat b1) default).due))) || decide (((l.getD (Int.toNat b1) default).hours) < 1)) || decide (((l.getD (Int.toNat b1) default).due) < ((l.getD (Int.toNat b1) default).ready)))), .imp (!(((decide (((l.getD (Int.toNat b1) default).ready) < 0) || decide (n0 < ((l.getD (Int.toNat b1) default).due))) || decide (((l.getD (Int.toNat b1) default).hours) < 1)) || decide (((l.getD (Int.toNat b1) default).due) < ((l.getD (Int.toNat b1) default).ready)))) (!(((decide (((l.getD (Int.toNat b1) default).ready) < 0) || decide (n0 < ((l.getD (Int.toNat b1) default).due))) || decide (((l.getD (Int.toNat b1) default).hours) < 1)) || decide (((l.getD (Int.toNat b1) default).due) < ((l.getD (Int.toNat b1) default).ready)))), .imp (!(((decide (((l.getD (Int.toNat b1) default).ready) < 0) || decide (n0 < ((l.getD (Int.toNat b1) default).due))) || decide (((l.getD (Int.toNat b1) default).hours) < 1)) || decide (((l.getD (Int.toNat b1) default).due) < ((l.getD (Int.toNat b1) default).ready)))) (!(((decide (((l.getD (Int.toNat b1) default).ready) < 0) || decide (n0 < ((l.getD (Int.toNat b1) default).due))) || decide (((l.getD (Int.toNat b1) default).hours) < 1)) || decide (((l.getD (Int.toNat b1) default).due) < ((l.getD (Int.toNat b1) default).ready)))), .imp (!(((decide (((l.getD (Int.toNat b1) default).ready) < 0) || decide (n0 < ((l.getD (Int.toNat b1) default).due))) || decide (((l.getD (Int.toNat b1) default).hours) < 1)) || decide (((l.getD (Int.toNat b1) default).due) < ((l.getD (Int.toNat b1) default).ready)))) (!(((decide (((l.getD (Int.toNat b1) default).ready) < 0) || decide (n0 < ((l.getD (Int.toNat b1) default).due))) || decide (((l.getD (Int.toNat b1) default).hours) < 1)) || decide (((l.getD (Int.toNat b1) default).due) < ((l.getD (Int.toNat b1) default).ready)))), .imp (!(((decide (((l.getD (Int.toNat b1) default).ready) < 0) || decide (n0 < ((l.getD (Int.toNat b1) default).due))) || decide (((l.getD (Int.toNat b1) default).hours) < 1)) || decide (((l.getD (Int.toNat b1) default).due) < ((l.getD (Int.toNat b1) default).ready)))) (!(((decide (((l.getD (Int.toNat b1) default).ready) < 0) || decide (n0 < ((l.getD (Int.toNat b1) default).due))) || decide (((l.getD (Int.toNat b1) default).hours) < 1)) || decide (((l.getD (Int.toNat b1) default).due) < ((l.getD (Int.toNat b1) default).ready)))), .when (!(((decide (((l.getD (Int.toNat b1) default).ready) < 0) || decide (n0 < ((l.getD (Int.toNat b1) default).due))) || decide (((l.getD (Int.toNat b1) default).hours) < 1)) || decide (((l.getD (Int.toNat b1) default).due) < ((l.getD (Int.toNat b1) default).ready)))) (.rng .i64 (((l.getD (Int.toNat b1) default).due) - ((l.getD (Int.toNat b1) default).ready))), .imp (!(((decide (((l.getD (Int.toNat b1) default).ready) < 0) || decide (n0 < ((l.getD (Int.toNat b1) default).due))) || decide (((l.getD (Int.toNat b1) default).hours) < 1)) || decide (((l.getD (Int.toNat b1) default).due) < ((l.getD (Int.toNat b1) default).ready)))) (!(((decide (((l.getD (Int.toNat b1) default).ready) < 0) || decide (n0 < ((l.getD (Int.toNat b1) default).due))) || decide (((l.getD (Int.toNat b1) default).hours) < 1)) || decide (((l.getD (Int.toNat b1) default).due) < ((l.getD (Int.toNat b1) default).ready)))), .imp (!(((decide (((l.getD (Int.toNat b1) default).ready) < 0) || decide (n0 < ((l.getD (Int.toNat b1) default).due))) || decide (((l.getD (Int.toNat b1) default).hours) < 1)) || decide (((l.getD (Int.toNat b1) default).due) < ((l.getD (Int.toNat b1) default).ready)))) (!(((decide (((l.getD (Int.toNat b1) default).ready) < 0) || decide (n0 < ((l.getD (Int.toNat b1) default).due))) || decide (((l.getD (Int.toNat b1) default).hours) < 1)) || decide (((l.getD (Int.toNat b1) default).due) < ((l.getD (Int.toNat b1) default).ready)))), .imp (!(((decide (((l.getD (Int.toNat b1) default).ready) < 0) || decide (n0 < ((l.getD (Int.toNat b1) default).due))) || decide (((l.getD (Int.toNat b1) default).hours) < 1)) || decide (((l.getD (Int.toNat b1) default).due) < ((l.getD (Int.toNat b1) default).ready)))) (!(((decide (((l.getD (Int.toNat b1) default).ready) < 0) || decide (n0 < ((l.getD (Int.toNat b1) default).due))) || decide (((l.getD (Int.toNat b1) default).hours) < 1)) || decide (((l.getD (Int.toNat b1) default).due) < ((l.getD (Int.toNat b1) default).ready)))), .imp (!((((decide (((l.getD (Int.toNat b1) default).ready) < 0) || decide (n0 < ((l.getD (Int.toNat b1) default).due))) || decide (((l.getD (Int.toNat b1) default).hours) < 1)) || decide (((l.getD (Int.toNat b1) default).due) < ((l.getD (Int.toNat b1) default).ready))) || decide ((((l.getD (Int.toNat b1) default).due) - ((l.getD (Int.toNat b1) default).ready)) < ((l.getD (Int.toNat b1) default).hours)))) (!((((decide (((l.getD (Int.toNat b1) default).ready) < 0) || decide (n0 < ((l.getD (Int.toNat b1) default).due))) || decide (((l.getD (Int.toNat b1) default).hours) < 1)) || decide (((l.getD (Int.toNat b1) default).due) < ((l.getD (Int.toNat b1) default).ready))) || decide ((((l.getD (Int.toNat b1) default).due) - ((l.getD (Int.toNat b1) default).ready)) < ((l.getD (Int.toNat b1) default).hours)))), .imp (!((((decide (((l.getD (Int.toNat b1) default).ready) < 0) || decide (n0 < ((l.getD (Int.toNat b1) default).due))) || decide (((l.getD (Int.toNat b1) default).hours) < 1)) || decide (((l.getD (Int.toNat b1) default).due) < ((l.getD (Int.toNat b1) default).ready))) || decide ((((l.getD (Int.toNat b1) default).due) - ((l.getD (Int.toNat b1) default).ready)) < ((l.getD (Int.toNat b1) default).hours)))) (!((((decide (((l.getD (Int.toNat b1) default).ready) < 0) || decide (n0 < ((l.getD (Int.toNat b1) default).due))) || decide (((l.getD (Int.toNat b1) default).hours) < 1)) || decide (((l.getD (Int.toNat b1) default).due) < ((l.getD (Int.toNat b1) default).ready))) || decide ((((l.getD (Int.toNat b1) default).due) - ((l.getD (Int.toNat b1) default).ready)) < ((l.getD (Int.toNat b1) default).hours)))), .when (!((((decide (((l.getD (Int.toNat b1) default).ready) < 0) || decide (n0 < ((l.getD (Int.toNat b1) default).due))) || decide (((l.getD (Int.toNat b1) default).hours) < 1)) || decide (((l.getD (Int.toNat b1) default).due) < ((l.getD (Int.toNat b1) default).ready))) || decide ((((l.getD (Int.toNat b1) default).due) - ((l.getD (Int.toNat b1) default).ready)) < ((l.getD (Int.toNat b1) default).hours)))) (.call ⟨[], (wormtubref05_Burners_R l), []⟩ 39 [iv (((l.getD (Int.toNat b1) default).heat)), iv (0), iv (1099511627776)] (.v (.bool r1))), .imp (!((((decide (((l.getD (Int.toNat b1) default).ready) < 0) || decide (n0 < ((l.getD (Int.toNat b1) default).due))) || decide (((l.getD (Int.toNat b1) default).hours) < 1)) || decide (((l.getD (Int.toNat b1) default).due) < ((l.getD (Int.toNat b1) default).ready))) || decide ((((l.getD (Int.toNat b1) default).due) - ((l.getD (Int.toNat b1) default).ready)) < ((l.getD (Int.toNat b1) default).hours)))) (!((((decide (((l.getD (Int.toNat b1) default).ready) < 0) || decide (n0 < ((l.getD (Int.toNat b1) default).due))) || decide (((l.getD (Int.toNat b1) default).hours) < 1)) || decide (((l.getD (Int.toNat b1) default).due) < ((l.getD (Int.toNat b1) default).ready))) || decide ((((l.getD (Int.toNat b1) default).due) - ((l.getD (Int.toNat b1) default).ready)) < ((l.getD (Int.toNat b1) default).hours)))), .imp (!((((decide (((l.getD (Int.toNat b1) default).ready) < 0) || decide (n0 < ((l.getD (Int.toNat b1) default).due))) || decide (((l.getD (Int.toNat b1) default).hours) < 1)) || decide (((l.getD (Int.toNat b1) default).due) < ((l.getD (Int.toNat b1) default).ready))) || decide ((((l.getD (Int.toNat b1) default).due) - ((l.getD (Int.toNat b1) default).ready)) < ((l.getD (Int.toNat b1) default).hours)))) (!((((decide (((l.getD (Int.toNat b1) default).ready) < 0) || decide (n0 < ((l.getD (Int.toNat b1) default).due))) || decide (((l.getD (Int.toNat b1) default).hours) < 1)) || decide (((l.getD (Int.toNat b1) default).due) < ((l.getD (Int.toNat b1) default).ready))) || decide ((((l.getD (Int.toNat b1) default).due) - ((l.getD (Int.toNat b1) default).ready)) < ((l.getD (Int.toNat b1) default).hours))))] S (by kernel_rfl) (by kernel_rfl) (by kernel_rfl) (by exact ⟨fun h => h, fun h => h, fun h => h, fun h => h, fun h => h, fun h => h, fun h => h, fun h => h, fun h => h, fun h => h, fun h => h, fun h => h, fun h => h, fun h => h, fun h => h, fun h => h, fun h => h, fun hW => rngI64 (g2 hW), fun h => h, fun h => h, fun h => h, fun h => h, fun h => h, fun hW => ⟨enters_39, fun _ W _ hm => wormtubref05_in_ok ((l.getD (Int.toNat b1) default).heat) 0 1099511627776 W r1 (bif_t hW e2)⟩, fun h => h, fun h => h, trivial⟩) ?_
      clear S; intro E a w S
      refine sym_if_last (b := (((((decide (((l.getD (Int.toNat b1) default).ready) < 0) || decide (n0 < ((l.getD (Int.toNat b1) default).due))) || decide (((l.getD (Int.toNat b1) default).hours) < 1)) || decide (((l.getD (Int.toNat b1) default).due) < ((l.getD (Int.toNat b1) default).ready))) || decide ((((l.getD (Int.toNat b1) default).due) - ((l.getD (Int.toNat b1) default).ready)) < ((l.getD (Int.toNat b1) default).hours))) || (!r1))) S rfl (fun hb2 => ?_) (fun hb2 => ?_)
      · have h := bif_t hb2 h
        refine sym_seq lay_ok mixed [] [4] [] (⟨[(4, .v (.bool false))], ⟨[], (wormtubref05_Burners_R l), []⟩⟩) [] S (by kernel_rfl) (by kernel_rfl) (by kernel_rfl) trivial ?_
        clear S; intro E a w S
        refine wp_ret ?_
        refine out_block_ret ?_
        refine out_then_ret ?_
        refine out_then_ret ?_
        refine out_block_ret ?_
        refine out_then_ret ?_
        refine out_then_ret ?_
        have hr := Option.some.inj h
        subst hr
        have hr := Option.some.inj hp1
        subst hr
        exact sym_ret lay_ok [.v (.bool false)] (by kernel_rfl) rfl S ⟨rfl, S.below rfl⟩
      · have h := bif_f hb2 h
        refine wp_skip ?_
        refine out_block_normal ?_
        refine out_then_normal ?_
        obtain ⟨g3, h⟩ := grd_some h
        refine sym_last lay_ok mixed [] [0, 1, 5] [] (⟨[(0, iv (n0)), (1, .sl 0), (5, iv ((b1 + 1)))], ⟨[], (wormtubref05_Burners_R l), []⟩⟩) [.rng .i64 (b1 + 1)] S (by kernel_rfl) (by kernel_rfl) (by kernel_rfl) ⟨rngI64 g3, trivial⟩ ?_
        clear S; intro E a w S
        refine out_then_normal ?_
        exact ih (b1 + 1) _ _ _ h (St.cast (P := Go.Proofs.Try.prog) [] [] [0, 1, 5] [] [0] _ [] (by kernel_rfl) trivial S)
    · have h := bif_f hb1 h
      refine wp_exit ?_
      refine out_then_exit ?_
      refine out_then_exit ?_
      refine out_block_here ?_
      refine out_then_normal ?_
      have hr := Option.some.inj h
      subst hr
      exact ⟨_, (), hp1, St.cast (P := Go.Proofs.Try.prog) [] [] [1] [] [0] _ [] (by kernel_rfl) trivial S⟩
  clear e1 S
  rintro a w ⟨E, x1, h, S⟩
  rw [wormtubref05_Burners_k1] at h
  refine out_then_normal ?_
  refine sym_seq lay_ok mixed [] [4] [] (⟨[(4, .v (.bool (decide (((l.length : Nat) : Int) ≤ 6))))], ⟨[], (wormtubref05_Burners_R l), []⟩⟩) [] S (by kernel_rfl) (by kernel_rfl) (by kernel_rfl) trivial ?_
  clear S; intro E a w S
  refine wp_ret ?_
  have h := Option.some.inj h
  subst h
  exact sym_ret lay_ok [.v (.bool (decide (((l.length : Nat) : Int) ≤ 6)))] (by kernel_rfl) rfl S ⟨rfl, S.below rfl⟩
def wormtubref05_Plan_R (room : List Int) (l : List MBurner) (starts : List Int) : List (Nat × Q) := [(0, (iQZ room)), (1, (bQZ l)), (2, (iQZ starts))]
def wormtubref05_Plan_l3 (l : List MBurner) (starts : List Int) (b2 : Int) : Nat → (Int × Int) → Option (Lp Int (Lp Unit (Int × Bool)))
  | 0, _ => none
  | n + 1, b3 =>
    (bif decide (b3.2 < ((starts.length : Nat) : Int)) then
    (grd (((0 : Int) ≤ b3.2 ∧ (b3.2 : Int) < ((starts.length : Nat) : Int)) ∧ (decide ((starts.getD (Int.toNat b3.2) default) ≤ b2) = true → ((0 : Int) ≤ b3.2 ∧ (b3.2 : Int) < ((starts.length : Nat) : Int))) ∧ (decide ((starts.getD (Int.toNat b3.2) default) ≤ b2) = true → ((0 : Int) ≤ b3.2 ∧ (b3.2 : Int) < ((l.length : Nat) : Int))) ∧ (decide ((starts.getD (Int.toNat b3.2) default) ≤ b2) = true → InI64 ((starts.getD (Int.toNat b3.2) default) + ((l.getD (Int.toNat b3.2) default).hours)))) <|
    (bif (decide ((starts.getD (Int.toNat b3.2) default) ≤ b2) && decide (b2 < ((starts.getD (Int.toNat b3.2) default) + ((l.getD (Int.toNat b3.2) default).hours)))) then
    (grd (((0 : Int) ≤ b3.2 ∧ (b3.2 : Int) < ((l.length : Nat) : Int)) ∧ InI64 (b3.1 + ((l.getD (Int.toNat b3.2) default).heat))) <|
    grd (InI64 (b3.2 + 1)) <|
    wormtubref05_Plan_l3 l starts b2 n ((b3.1 + ((l.getD (Int.toNat b3.2) default).heat)), (b3.2 + 1)))
    else
    (grd (InI64 (b3.2 + 1)) <|
    wormtubref05_Plan_l3 l starts b2 n (b3.1, (b3.2 + 1)))))
    else
    (some (Lp.done b3.1)))
def wormtubref05_Plan_k1 (x1 : Int) (x2 : Unit) : Option (Int × Bool) :=
some (x1, true)
def wormtubref05_Plan_l2 (fuel : Nat) (room : List Int) (l : List MBurner) (starts : List Int) : Nat → Int → Option (Lp Unit (Int × Bool))
  | 0, _ => none
  | n + 1, b2 =>
    (bif decide (b2 < ((room.length : Nat) : Int)) then
    ((wormtubref05_Plan_l3 l starts b2 fuel (0, 0)).bind fun lr3 => lr3.go fun x3 => (fun (x3 : Int) =>
    grd (((0 : Int) ≤ b2 ∧ (b2 : Int) < ((room.length : Nat) : Int))) <|
    (bif decide ((room.getD (Int.toNat b2) default) < x3) then
    (some (Lp.ret (0, false)))
    else
    (grd (InI64 (b2 + 1)) <|
    wormtubref05_Plan_l2 fuel room l starts n (b2 + 1)))) x3)
    else
    (some (Lp.done ())))
def wormtubref05_Plan_k2 (fuel : Nat) (room : List Int) (l : List MBurner) (starts : List Int) (x1 : Int) : Option (Int × Bool) :=
(wormtubref05_Plan_l2 fuel room l starts fuel 0).bind fun lr2 => lr2.go fun x2 => wormtubref05_Plan_k1 x1 x2
def wormtubref05_Plan_l1 (l : List MBurner) (starts : List Int) : Nat → (Int × Int) → Option (Lp Int (Int × Bool))
  | 0, _ => none
  | n + 1, b1 =>
    (bif decide (b1.2 < ((starts.length : Nat) : Int)) then
    (grd (((0 : Int) ≤ b1.2 ∧ (b1.2 : Int) < ((starts.length : Nat) : Int)) ∧ ((0 : Int) ≤ b1.2 ∧ (b1.2 : Int) < ((l.length : Nat) : Int)) ∧ InI64 ((starts.getD (Int.toNat b1.2) default) + ((l.getD (Int.toNat b1.2) default).hours))) <|
    grd (InI64 (b1.2 + 1)) <|
    wormtubref05_Plan_l1 l starts n ((max b1.1 ((starts.getD (Int.toNat b1.2) default) + ((l.getD (Int.toNat b1.2) default).hours))), (b1.2 + 1)))
    else
    (some (Lp.done b1.1)))
def wormtubref05_Plan (fuel : Nat) (room : List Int) (l : List MBurner) (starts : List Int) : Option (Int × Bool) :=
(wormtubref05_Plan_l1 l starts fuel (0, 0)).bind fun lr1 => lr1.go fun x1 => wormtubref05_Plan_k2 fuel room l starts x1
set_option maxRecDepth 100000 in
set_option maxHeartbeats 4000000 in
theorem wormtubref05_Plan_ok (fuel : Nat) (room : List Int) (l : List MBurner) (starts : List Int) (W : World) (A0 : Option Addr) (c0 : Nat) (h0 : room.length ≤ c0) (s0 : SlAt W A0 room.length 1 fun i => [.int .i64 (room.getD i default)]) (A1 : Option Addr) (c1 : Nat) (h1 : l.length ≤ c1) (s1 : SlAt W A1 l.length 4 fun i => bZ (l.getD i default)) (A2 : Option Addr) (c2 : Nat) (h2 : starts.length ≤ c2) (s2 : SlAt W A2 starts.length 1 fun i => [.int .i64 (starts.getD i default)]) (res : Int × Bool) (h : wormtubref05_Plan fuel room l starts = some res) :
    Calls Go.Proofs.Try.prog 32 #[.slice A0 room.length c0, .slice A1 l.length c1, .slice A2 starts.length c2] W fun e w' => e = .returned (.tuple #[.int .i64 res.1, .bool res.2]) ∧ Below W.heap.size W w' := by
  refine sym_call (f := 32) (fn := Go.Proofs.Try.f32) (c := Go.Proofs.Try.f32.body.get rfl) Go.Proofs.Try.func32 rfl [.sl 0, .sl 1, .sl 2] (wormtubref05_Plan_R room l starts) [] (envOf [(0, ⟨A0, room.length, c0, 1⟩), (1, ⟨A1, l.length, c1, 4⟩), (2, ⟨A2, starts.length, c2, 1⟩)]) allR (fun _ _ => rfl) (by kernel_rfl) (envOf_one trivial) ⟨s0.rd h0, s1.rd h1, s2.rd h2, trivial⟩ (AllRR.all _ _) trivial fun E a w S => ?_
  rw [wormtubref05_Plan] at h
  refine sym_seq lay_ok mixed [] [0, 1, 2] [] (⟨[(0, .sl 0), (1, .sl 1), (2, .sl 2)], ⟨[], (wormtubref05_Plan_R room l starts), []⟩⟩) [] S (by kernel_rfl) (by kernel_rfl) (by kernel_rfl) trivial ?_
  clear S; intro E a w S
  refine sym_seq lay_ok mixed [] [0, 1, 2, 8] [] (⟨[(0, .sl 0), (1, .sl 1), (2, .sl 2), (8, iv (0))], ⟨[], (wormtubref05_Plan_R room l starts), []⟩⟩) [] S (by kernel_rfl) (by kernel_rfl) (by kernel_rfl) trivial ?_
  clear S; intro E a w S
  refine wp_seq ?_
  refine sym_seq lay_ok mixed [] [0, 1, 2, 8, 9] [] (⟨[(0, .sl 0), (1, .sl 1), (2, .sl 2), (8, iv (0)), (9, iv (0))], ⟨[], (wormtubref05_Plan_R room l starts), []⟩⟩) [] S (by kernel_rfl) (by kernel_rfl) (by kernel_rfl) trivial ?_
  clear S; intro E a w S
  obtain ⟨lr1, e1, hp1⟩ := bind_some h
  clear h
  refine sym_block_last (G := fun a w => ∃ E, ∃ x1 : Int, wormtubref05_Plan_k2 fuel room l starts x1 = some res ∧ St ⟨W, noC, Go.Proofs.Try.f32.ntmps, [], allR, noρ, (envOf [(0, ⟨A0, room.length, c0, 1⟩), (1, ⟨A1, l.length, c1, 4⟩), (2, ⟨A2, starts.length, c2, 1⟩)]).sl, (envOf [(0, ⟨A0, room.length, c0, 1⟩), (1, ⟨A1, l.length, c1, 4⟩), (2, ⟨A2, starts.length, c2, 1⟩)]).x⟩ (⟨[(0, .sl 0), (1, .sl 1), (2, .sl 2), (8, iv (x1))], ⟨[], (wormtubref05_Plan_R room l starts), []⟩⟩) E a w) ?_ ?_
  · refine wp_loop_rounds fuel ?_
    refine sym_rounds (F := fun n b1 => wormtubref05_Plan_l1 l starts n b1 = some lr1) (H := fun b1 => ⟨[(0, .sl 0), (1, .sl 1), (2, .sl 2), (8, iv (b1.1)), (9, iv (b1.2))], ⟨[], (wormtubref05_Plan_R room l starts), []⟩⟩) (0, 0) (fun b hb => by have hb : none = some lr1 := hb; cases hb) ?_ _ _ _ _ e1 (St.cast (P := Go.Proofs.Try.prog) [] [] [0, 1, 2, 8, 9] [] [0, 1, 2] _ [] (by kernel_rfl) trivial S)
    clear e1 S
    intro n b1 E a w h ih S
    rw [wormtubref05_Plan_l1] at h
    refine wp_seq ?_
    refine sym_seq lay_ok mixed [] [0, 1, 2, 8, 9, 16] [] (⟨[(0, .sl 0), (1, .sl 1), (2, .sl 2), (8, iv (b1.1)), (9, iv (b1.2)), (16, .v (.bool (decide (b1.2 < ((starts.length : Nat) : Int)))))], ⟨[], (wormtubref05_Plan_R room l starts), []⟩⟩) [] S (by kernel_rfl) (by kernel_rfl) (by kernel_rfl) trivial ?_
    clear S; intro E a w S
    refine sym_if_last (b := decide (b1.2 < ((starts.length : Nat) : Int))) S rfl (fun hb1 => ?_) (fun hb1 => ?_)
    · have h := bif_t hb1 h
      refine wp_skip ?_
      refine out_then_normal ?_
      refine wp_seq ?_
      refine wp_block ?_
      obtain ⟨⟨g1, g2, g3⟩, h⟩ := grd_some h
      refine sym_last lay_ok mixed [] [0, 1, 2, 8, 9] [] (⟨[(0, .sl 0), (1, .sl 1), (2, .sl 2), (8, iv ((max b1.1 ((starts.getD (Int.toNat b1.2) default) + ((l.getD (Int.toNat b1.2) default).hours))))), (9, iv (b1.2))], ⟨[], (wormtubref05_Plan_R room l starts), []⟩⟩) [.idx b1.2 starts.length, .idx b1.2 starts.length, .idx b1.2 l.length, .idx b1.2 l.length, .idx b1.2 l.length, .rng .i64 ((starts.getD (Int.toNat b1.2) default) + ((l.getD (Int.toNat b1.2) default).hours))] S (by kernel_rfl) (by kernel_rfl) (by kernel_rfl) ⟨g1, g1, g2, g2, g2, rngI64 g3, trivial⟩ ?_
      clear S; intro E a w S
      refine out_block_normal ?_
      refine out_then_normal ?_
      obtain ⟨g4, h⟩ := grd_some h
      refine sym_last lay_ok mixed [] [0, 1, 2, 8, 9] [] (⟨[(0, .sl 0), (1, .sl 1), (2, .sl 2), (8, iv ((max b1.1 ((starts.getD (Int.toNat b1.2) default) + ((l.getD (Int.toNat b1.2) default).hours))))), (9, iv ((b1.2 + 1)))], ⟨[], (wormtubref05_Plan_R room l starts), []⟩⟩) [.rng .i64 (b1.2 + 1)] S (by kernel_rfl) (by kernel_rfl) (by kernel_rfl) ⟨rngI64 g4, trivial⟩ ?_
      clear S; intro E a w S
      refine out_then_normal ?_
      exact ih ((max b1.1 ((starts.getD (Int.toNat b1.2) default) + ((l.getD (Int.toNat b1.2) default).hours))), (b1.2 + 1)) _ _ _ h (St.cast (P := Go.Proofs.Try.prog) [] [] [0, 1, 2, 8, 9] [] [0, 1, 2] _ [] (by kernel_rfl) trivial S)
    · have h := bif_f hb1 h
      refine wp_exit ?_
      refine out_then_exit ?_
      refine out_then_exit ?_
      refine out_block_here ?_
      refine out_then_normal ?_
      have hr := Option.some.inj h
      subst hr
      exact ⟨_, b1.1, hp1, St.cast (P := Go.Proofs.Try.prog) [] [] [0, 1, 2, 8] [] [0, 1, 2] _ [] (by kernel_rfl) trivial S⟩
  clear e1 S
  rintro a w ⟨E, x1, h, S⟩
  rw [wormtubref05_Plan_k2] at h
  refine out_then_normal ?_
  refine wp_seq ?_
  refine sym_seq lay_ok mixed [] [0, 1, 2, 8, 10] [] (⟨[(0, .sl 0), (1, .sl 1), (2, .sl 2), (8, iv (x1)), (10, iv (0))], ⟨[], (wormtubref05_Plan_R room l starts), []⟩⟩) [] S (by kernel_rfl) (by kernel_rfl) (by kernel_rfl) trivial ?_
  clear S; intro E a w S
  obtain ⟨lr2, e2, hp2⟩ := bind_some h
  clear h
  refine sym_block_last (G := fun a w => ∃ E, ∃ x2 : Unit, wormtubref05_Plan_k1 x1 x2 = some res ∧ St ⟨W, noC, Go.Proofs.Try.f32.ntmps, [], allR, noρ, (envOf [(0, ⟨A0, room.length, c0, 1⟩), (1, ⟨A1, l.length, c1, 4⟩), (2, ⟨A2, starts.length, c2, 1⟩)]).sl, (envOf [(0, ⟨A0, room.length, c0, 1⟩), (1, ⟨A1, l.length, c1, 4⟩), (2, ⟨A2, starts.length, c2, 1⟩)]).x⟩ (⟨[(8, iv (x1))], ⟨[], (wormtubref05_Plan_R room l starts), []⟩⟩) E a w) ?_ ?_
  · refine wp_loop_rounds fuel ?_
    refine sym_rounds (F := fun n b2 => wormtubref05_Plan_l2 fuel room l starts n b2 = some lr2) (H := fun b2 => ⟨[(0, .sl 0), (1, .sl 1), (2, .sl 2), (8, iv (x1)), (10, iv (b2))], ⟨[], (wormtubref05_Plan_R room l starts), []⟩⟩) 0 (fun b hb => by have hb : none = some lr2 := hb; cases hb) ?_ _ _ _ _ e2 (St.cast (P := Go.Proofs.Try.prog) [] [] [0, 1, 2, 8, 10] [] [0, 1, 2] _ [] (by kernel_rfl) trivial S)
    clear e2 S
    intro n b2 E a w h ih S
    rw [wormtubref05_Plan_l2] at h
    refine wp_seq ?_
    refine sym_seq lay_ok mixed [] [0, 1, 2, 8, 10, 34] [] (⟨[(0, .sl 0), (1, .sl 1), (2, .sl 2), (8, iv (x1)), (10, iv (b2)), (34, .v (.bool (decide (b2 < ((room.length : Nat) : Int)))))], ⟨[], (wormtubref05_Plan_R room l starts), []⟩⟩) [] S (by kernel_rfl) (by kernel_rfl) (by kernel_rfl) trivial ?_
    clear S; intro E a w S
    refine sym_if_last (b := decide (b2 < ((room.length : Nat) : Int))) S rfl (fun hb2 => ?_) (fun hb2 => ?_)
    · have h := bif_t hb2 h
      refine wp_skip ?_
      refine out_then_normal ?_
      refine wp_seq ?_
      refine wp_block ?_
      refine sym_seq lay_ok mixed [] [0, 1, 2, 8, 10, 11] [] (⟨[(0, .sl 0), (1, .sl 1), (2, .sl 2), (8, iv (x1)), (10, iv (b2)), (11, iv (0))], ⟨[], (wormtubref05_Plan_R room l starts), []⟩⟩) [] S (by kernel_rfl) (by kernel_rfl) (by kernel_rfl) trivial ?_
      clear S; intro E a w S
      refine wp_seq ?_
      refine sym_seq lay_ok mixed [] [0, 1, 2, 8, 10, 11, 12] [] (⟨[(0, .sl 0), (1, .sl 1), (2, .sl 2), (8, iv (x1)), (10, iv (b2)), (11, iv (0)), (12, iv (0))], ⟨[], (wormtubref05_Plan_R room l starts), []⟩⟩) [] S (by kernel_rfl) (by kernel_rfl) (by kernel_rfl) trivial ?_
      clear S; intro E a w S
      obtain ⟨lr3, e3, hp3⟩ := bind_some h
      clear h
      refine sym_block_last (G := fun a w => ∃ E, ∃ x3 : Int, (fun (x3 : Int) =>
grd (((0 : Int) ≤ b2 ∧ (b2 : Int) < ((room.length : Nat) : Int))) <|
(bif decide ((room.getD (Int.toNat b2) default) < x3) then
(some (Lp.ret (0, false)))
else
(grd (InI64 (b2 + 1)) <|
wormtubref05_Plan_l2 fuel room l starts n (b2 + 1)))) x3 = some lr2 ∧ St ⟨W, noC, Go.Proofs.Try.f32.ntmps, [], allR, noρ, (envOf [(0, ⟨A0, room.length, c0, 1⟩), (1, ⟨A1, l.length, c1, 4⟩), (2, ⟨A2, starts.length, c2, 1⟩)]).sl, (envOf [(0, ⟨A0, room.length, c0, 1⟩), (1, ⟨A1, l.length, c1, 4⟩), (2, ⟨A2, starts.length, c2, 1⟩)]).x⟩ (⟨[(0, .sl 0), (1, .sl 1), (2, .sl 2), (8, iv (x1)), (10, iv (b2)), (11, iv (x3))], ⟨[], (wormtubref05_Plan_R room l starts), []⟩⟩) E a w) ?_ ?_
      · refine wp_loop_rounds fuel ?_
        refine sym_rounds (F := fun n b3 => wormtubref05_Plan_l3 l starts b2 n b3 = some lr3) (H := fun b3 => ⟨[(0, .sl 0), (1, .sl 1), (2, .sl 2), (8, iv (x1)), (10, iv (b2)), (11, iv (b3.1)), (12, iv (b3.2))], ⟨[], (wormtubref05_Plan_R room l starts), []⟩⟩) (0, 0) (fun b hb => by have hb : none = some lr3 := hb; cases hb) ?_ _ _ _ _ e3 (St.cast (P := Go.Proofs.Try.prog) [] [] [0, 1, 2, 8, 10, 11, 12] [] [0, 1, 2] _ [] (by kernel_rfl) trivial S)
        clear e3 S
        intro n b3 E a w h ih S
        rw [wormtubref05_Plan_l3] at h
        refine wp_seq ?_
        refine sym_seq lay_ok mixed [] [0, 1, 2, 8, 10, 11, 12, 40] [] (⟨[(0, .sl 0), (1, .sl 1), (2, .sl 2), (8, iv (x1)), (10, iv (b2)), (11, iv (b3.1)), (12, iv (b3.2)), (40, .v (.bool (decide (b3.2 < ((starts.length : Nat) : Int)))))], ⟨[], (wormtubref05_Plan_R room l starts), []⟩⟩) [] S (by kernel_rfl) (by kernel_rfl) (by kernel_rfl) trivial ?_
        clear S; intro E a w S
        refine sym_if_last (b := decide (b3.2 < ((starts.length : Nat) : Int))) S rfl (fun hb3 => ?_) (fun hb3 => ?_)
        · have h := bif_t hb3 h
          refine wp_skip ?_
          refine out_then_normal ?_
          refine wp_seq ?_
          refine wp_block ?_
          obtain ⟨⟨g5, g6, g7, g8⟩, h⟩ := grd_some h
          refine sym_seq lay_ok mixed [(7, { og := true }), (8, { og := true }), (9, { og := true }), (10, { og := true }), (11, { og := true }), (12, { og := true }), (13, { og := true }), (14, { og := true }), (15, { og := true }), (16, { og := true }), (17, { og := true }), (18, { og := true }), (19, { pk := true })] [0, 1, 2, 8, 10, 11, 12, 62] [] (⟨[(0, .sl 0), (1, .sl 1), (2, .sl 2), (8, iv (x1)), (10, iv (b2)), (11, iv (b3.1)), (12, iv (b3.2)), (62, .v (.bool (decide ((starts.getD (Int.toNat b3.2) default) ≤ b2) && decide (b2 < ((starts.getD (Int.toNat b3.2) default) + ((l.getD (Int.toNat b3.2) default).hours))))))], ⟨[], (wormtubref05_Plan_R room l starts), []⟩⟩) [.idx b3.2 starts.length, .idx b3.2 starts.length, .imp (decide ((starts.getD (Int.toNat b3.2) default) ≤ b2)) (decide ((starts.getD (Int.toNat b3.2) default) ≤ b2)), .imp (decide ((starts.getD (Int.toNat b3.2) default) ≤ b2)) (decide ((starts.getD (Int.toNat b3.2) default) ≤ b2)), .when (decide ((starts.getD (Int.toNat b3.2) default) ≤ b2)) (.idx b3.2 starts.length), .imp (decide ((starts.getD (Int.toNat b3.2) default) ≤ b2)) (decide ((starts.getD (Int.toNat b3.2) default) ≤ b2)), .when (decide ((starts.getD (Int.toNat b3.2) default) ≤ b2)) (.idx b3.2 starts.length), .imp (decide ((starts.getD (Int.toNat b3.2) default) ≤ b2)) (decide ((starts.getD (Int.toNat b3.2) default) ≤ b2)), .imp (decide ((starts.getD (Int.toNat b3.2) default) ≤ b2)) (decide ((starts.getD (Int.toNat b3.2) default) ≤ b2)), .when (decide ((starts.getD (Int.toNat b3.2) default) ≤ b2)) (.idx b3.2 l.length), .imp (decide ((starts.getD (Int.toNat b3.2) default) ≤ b2)) (decide ((starts.getD (Int.toNat b3.2) default) ≤ b2)), .when (decide ((starts.getD (Int.toNat b3.2) default) ≤ b2)) (.idx b3.2 l.length), .imp (decide ((starts.getD (Int.toNat b3.2) default) ≤ b2)) (decide ((starts.getD (Int.toNat b3.2) default) ≤ b2)), .when (decide ((starts.getD (Int.toNat b3.2) default) ≤ b2)) (.idx b3.2 l.length), .imp (decide ((starts.getD (Int.toNat b3.2) default) ≤ b2)) (decide ((starts.getD (Int.toNat b3.2) default) ≤ b2)), .imp (decide ((starts.getD (Int.toNat b3.2) default) ≤ b2)) (decide ((starts.getD (Int.toNat b3.2) default) ≤ b2)), .when (decide ((starts.getD (Int.toNat b3.2) default) ≤ b2)) (.rng .i64 ((starts.getD (Int.toNat b3.2) default) + ((l.getD (Int.toNat b3.2) default).hours))), .imp (decide ((starts.getD (Int.toNat b3.2) default) ≤ b2)) (decide ((starts.getD (Int.toNat b3.2) default) ≤ b2)), .imp (decide ((starts.getD (Int.toNat b3.2) default) ≤ b2)) (decide ((starts.getD (Int.toNat b3.2) default) ≤ b2)), .imp (decide ((starts.getD (Int.toNat b3.2) default) ≤ b2)) (decide ((starts.getD (Int.toNat b3.2) default) ≤ b2))] S (by kernel_rfl) (by kernel_rfl) (by kernel_rfl) (by exact ⟨g5, g5, fun h => h, fun h => h, fun hW => (g6 hW), fun h => h, fun hW => (g6 hW), fun h => h, fun h => h, fun hW => (g7 hW), fun h => h, fun hW => (g7 hW), fun h => h, fun hW => (g7 hW), fun h => h, fun h => h, fun hW => rngI64 (g8 hW), fun h => h, fun h => h, fun h => h, trivial⟩) ?_
          clear S; intro E a w S
          refine sym_if_last (b := (decide ((starts.getD (Int.toNat b3.2) default) ≤ b2) && decide (b2 < ((starts.getD (Int.toNat b3.2) default) + ((l.getD (Int.toNat b3.2) default).hours))))) S rfl (fun hb4 => ?_) (fun hb4 => ?_)
          · have h := bif_t hb4 h
            obtain ⟨⟨g9, g10⟩, h⟩ := grd_some h
            refine sym_last lay_ok mixed [] [0, 1, 2, 8, 10, 11, 12] [] (⟨[(0, .sl 0), (1, .sl 1), (2, .sl 2), (8, iv (x1)), (10, iv (b2)), (11, iv ((b3.1 + ((l.getD (Int.toNat b3.2) default).heat)))), (12, iv (b3.2))], ⟨[], (wormtubref05_Plan_R room l starts), []⟩⟩) [.idx b3.2 l.length, .idx b3.2 l.length, .idx b3.2 l.length, .rng .i64 (b3.1 + ((l.getD (Int.toNat b3.2) default).heat))] S (by kernel_rfl) (by kernel_rfl) (by kernel_rfl) ⟨g9, g9, g9, rngI64 g10, trivial⟩ ?_
            clear S; intro E a w S
            refine out_block_normal ?_
            refine out_then_normal ?_
            obtain ⟨g11, h⟩ := grd_some h
            refine sym_last lay_ok mixed [] [0, 1, 2, 8, 10, 11, 12] [] (⟨[(0, .sl 0), (1, .sl 1), (2, .sl 2), (8, iv (x1)), (10, iv (b2)), (11, iv ((b3.1 + ((l.getD (Int.toNat b3.2) default).heat)))), (12, iv ((b3.2 + 1)))], ⟨[], (wormtubref05_Plan_R room l starts), []⟩⟩) [.rng .i64 (b3.2 + 1)] S (by kernel_rfl) (by kernel_rfl) (by kernel_rfl) ⟨rngI64 g11, trivial⟩ ?_
            clear S; intro E a w S
            refine out_then_normal ?_
            exact ih ((b3.1 + ((l.getD (Int.toNat b3.2) default).heat)), (b3.2 + 1)) _ _ _ h (St.cast (P := Go.Proofs.Try.prog) [] [] [0, 1, 2, 8, 10, 11, 12] [] [0, 1, 2] _ [] (by kernel_rfl) trivial S)
          · have h := bif_f hb4 h
            refine wp_skip ?_
            refine out_block_normal ?_
            refine out_then_normal ?_
            obtain ⟨g12, h⟩ := grd_some h
            refine sym_last lay_ok mixed [] [0, 1, 2, 8, 10, 11, 12] [] (⟨[(0, .sl 0), (1, .sl 1), (2, .sl 2), (8, iv (x1)), (10, iv (b2)), (11, iv (b3.1)), (12, iv ((b3.2 + 1)))], ⟨[], (wormtubref05_Plan_R room l starts), []⟩⟩) [.rng .i64 (b3.2 + 1)] S (by kernel_rfl) (by kernel_rfl) (by kernel_rfl) ⟨rngI64 g12, trivial⟩ ?_
            clear S; intro E a w S
            refine out_then_normal ?_
            exact ih (b3.1, (b3.2 + 1)) _ _ _ h (St.cast (P := Go.Proofs.Try.prog) [] [] [0, 1, 2, 8, 10, 11, 12] [] [0, 1, 2] _ [] (by kernel_rfl) trivial S)
        · have h := bif_f hb3 h
          refine wp_exit ?_
          refine out_then_exit ?_
          refine out_then_exit ?_
          refine out_block_here ?_
          refine out_then_normal ?_
          have hr := Option.some.inj h
          subst hr
          exact ⟨_, b3.1, hp3, St.cast (P := Go.Proofs.Try.prog) [] [] [0, 1, 2, 8, 10, 11] [] [0, 1, 2] _ [] (by kernel_rfl) trivial S⟩
      clear e3 S
      rintro a w ⟨E, x3, h, S⟩
      refine out_then_normal ?_
      obtain ⟨g13, h⟩ := grd_some h
      refine sym_seq lay_ok mixed [] [0, 1, 2, 8, 10, 75] [] (⟨[(0, .sl 0), (1, .sl 1), (2, .sl 2), (8, iv (x1)), (10, iv (b2)), (75, .v (.bool (decide ((room.getD (Int.toNat b2) default) < x3))))], ⟨[], (wormtubref05_Plan_R room l starts), []⟩⟩) [.idx b2 room.length, .idx b2 room.length] S (by kernel_rfl) (by kernel_rfl) (by kernel_rfl) ⟨g13, g13, trivial⟩ ?_
      clear S; intro E a w S
      refine sym_if_last (b := decide ((room.getD (Int.toNat b2) default) < x3)) S rfl (fun hb5 => ?_) (fun hb5 => ?_)
      · have h := bif_t hb5 h
        refine sym_seq lay_ok mixed [] [6, 7] [] (⟨[(6, iv (0)), (7, .v (.bool false))], ⟨[], (wormtubref05_Plan_R room l starts), []⟩⟩) [] S (by kernel_rfl) (by kernel_rfl) (by kernel_rfl) trivial ?_
        clear S; intro E a w S
        refine wp_ret ?_
        refine out_block_ret ?_
        refine out_then_ret ?_
        refine out_then_ret ?_
        refine out_block_ret ?_
        refine out_then_ret ?_
        refine out_then_ret ?_
        have hr := Option.some.inj h
        subst hr
        have hr := Option.some.inj hp2
        subst hr
        exact sym_ret lay_ok [iv (0), .v (.bool false)] (by kernel_rfl) rfl S ⟨rfl, S.below rfl⟩
      · have h := bif_f hb5 h
        refine wp_skip ?_
        refine out_block_normal ?_
        refine out_then_normal ?_
        obtain ⟨g14, h⟩ := grd_some h
        refine sym_last lay_ok mixed [] [0, 1, 2, 8, 10] [] (⟨[(0, .sl 0), (1, .sl 1), (2, .sl 2), (8, iv (x1)), (10, iv ((b2 + 1)))], ⟨[], (wormtubref05_Plan_R room l starts), []⟩⟩) [.rng .i64 (b2 + 1)] S (by kernel_rfl) (by kernel_rfl) (by kernel_rfl) ⟨rngI64 g14, trivial⟩ ?_
        clear S; intro E a w S
        refine out_then_normal ?_
        exact ih (b2 + 1) _ _ _ h (St.cast (P := Go.Proofs.Try.prog) [] [] [0, 1, 2, 8, 10] [] [0, 1, 2] _ [] (by kernel_rfl) trivial S)
    · have h := bif_f hb2 h
      refine wp_exit ?_
      refine out_then_exit ?_
      refine out_then_exit ?_
      refine out_block_here ?_
      refine out_then_normal ?_
      have hr := Option.some.inj h
      subst hr
      exact ⟨_, (), hp2, St.cast (P := Go.Proofs.Try.prog) [] [] [8] [] [0, 1, 2] _ [] (by kernel_rfl) trivial S⟩
  clear e2 S
  rintro a w ⟨E, x2, h, S⟩
  rw [wormtubref05_Plan_k1] at h
  refine out_then_normal ?_
  refine sym_seq lay_ok mixed [] [6, 7] [] (⟨[(6, iv (x1)), (7, .v (.bool true))], ⟨[], (wormtubref05_Plan_R room l starts), []⟩⟩) [] S (by kernel_rfl) (by kernel_rfl) (by kernel_rfl) trivial ?_
  clear S; intro E a w S
  refine wp_ret ?_
  have h := Option.some.inj h
  subst h
  exact sym_ret lay_ok [iv (x1), .v (.bool true)] (by kernel_rfl) rfl S ⟨rfl, S.below rfl⟩
def wormtublaw05_sample  : Option (MWater × List MPoint) :=
some ((MWater.mk (MSpan.mk 1000 1200) (MSpan.mk 8000 9000)), [(MPoint.mk 2 (MSpan.mk 0 0) (MSpan.mk 0 0) (MSpan.mk 1000000 1200000) (MSpan.mk 0 0)), (MPoint.mk 1 (MSpan.mk 200 200) (MSpan.mk 0 0) (MSpan.mk 0 0) (MSpan.mk 0 0)), (MPoint.mk 0 (MSpan.mk 100 400) (MSpan.mk 12000 14000) (MSpan.mk 0 0) (MSpan.mk 0 0)), (MPoint.mk 3 (MSpan.mk 0 0) (MSpan.mk 5000 6000) (MSpan.mk 0 0) (MSpan.mk 1000 2000))])
set_option maxRecDepth 100000 in
set_option maxHeartbeats 4000000 in
theorem wormtublaw05_sample_ok  (W : World)  (res : MWater × List MPoint) (h : wormtublaw05_sample  = some res) :
    Calls Go.Proofs.Try.prog 33 #[] W fun e w' => ∃ v : Nat → Value, e = .returned (.tuple #[.agg #[.int .i64 res.1.flow.lo, .int .i64 res.1.flow.hi, .int .i64 res.1.warm.lo, .int .i64 res.1.warm.hi], v 0]) ∧ Below W.heap.size W w' ∧ (∀ i, (v i).oneCell' = true) ∧ HeldIn (fun k => W.heap.size ≤ k) w' (SlicesAre 0 [(pQZ res.2)] v) := by
  refine sym_call (f := 33) (fn := Go.Proofs.Try.f33) (c := Go.Proofs.Try.f33.body.get rfl) Go.Proofs.Try.func33 rfl [] [] [] (envOf []) allR (fun _ _ => rfl) (by kernel_rfl) (envOf_one trivial) trivial (AllRR.all _ _) trivial fun E a w S => ?_
  rw [wormtublaw05_sample] at h
  refine sym_seq lay_ok mixed [(0, { g := 0 })] [0] [0] (⟨[(0, .own 0 0)], ⟨[(0, .blk 25 [iv (0), iv (0), iv (0), iv (0)])], [], []⟩⟩) [] S (by kernel_rfl) (by kernel_rfl) (by kernel_rfl) trivial ?_
  clear S; intro E a w S
  refine sym_seq lay_ok mixed [(10, { g := 1 })] [0, 2] [0, 1] (⟨[(0, .own 0 0), (2, .row 1 0 4 4)], ⟨[(0, .blk 25 [iv (0), iv (0), iv (0), iv (0)]), (1, .blk 47 [iv (2), iv (0), iv (0), iv (0), iv (0), iv (1000000), iv (1200000), iv (0), iv (0), iv (1), iv (200), iv (200), iv (0), iv (0), iv (0), iv (0), iv (0), iv (0), iv (0), iv (100), iv (400), iv (12000), iv (14000), iv (0), iv (0), iv (0), iv (0), iv (3), iv (0), iv (0), iv (5000), iv (6000), iv (0), iv (0), iv (1000), iv (2000)])], [], []⟩⟩) [] S (by kernel_rfl) (by kernel_rfl) (by kernel_rfl) trivial ?_
  clear S; intro E a w S
  refine sym_seq lay_ok mixed [] [0, 1] [0, 1] (⟨[(0, .own 0 0), (1, .row 1 0 4 4)], ⟨[(0, .blk 25 [iv (1000), iv (1200), iv (8000), iv (9000)]), (1, .blk 47 [iv (2), iv (0), iv (0), iv (0), iv (0), iv (1000000), iv (1200000), iv (0), iv (0), iv (1), iv (200), iv (200), iv (0), iv (0), iv (0), iv (0), iv (0), iv (0), iv (0), iv (100), iv (400), iv (12000), iv (14000), iv (0), iv (0), iv (0), iv (0), iv (3), iv (0), iv (0), iv (5000), iv (6000), iv (0), iv (0), iv (1000), iv (2000)])], [], []⟩⟩) [] S (by kernel_rfl) (by kernel_rfl) (by kernel_rfl) trivial ?_
  clear S; intro E a w S
  refine wp_ret ?_
  have h := Option.some.inj h
  subst h
  exact sym_ret lay_ok [.agg [iv (1000), iv (1200), iv (8000), iv (9000)], .row 1 0 4 4] (by kernel_rfl) rfl S ⟨vfun [.slice (some ⟨E.ρ 1, 0, none⟩) 4 4], rfl, S.below rfl, vfun_one [.slice (some ⟨E.ρ 1, 0, none⟩) 4 4] ⟨rfl, trivial⟩, (((S.own_blk (g := 1) rfl rfl).imp fun w hb => ⟨_, _, rfl, Nat.le_refl _, SlAt.of_blk hb (lit_get ⟨⟨⟨⟨trivial, rfl⟩, rfl⟩, rfl⟩, rfl⟩)⟩).and (HeldIn.true fun _ => trivial))⟩
def wormtubref05_flow_R (l : List MPoint) : List (Nat × Q) := [(0, (pQZ l))]
def wormtubref05_flow_k1 (l : List MPoint) (x1 : List MWater) : Option (List MWater × Int × Int) :=
some (x1, ((l.length : Nat) : Int), 0)
def wormtubref05_flow_l1 (l : List MPoint) : Nat → (Int × Int × Int × Int × Int × List MWater) → Option (Lp (List MWater) (List MWater × Int × Int))
  | 0, _ => none
  | n + 1, b1 =>
    (bif decide (b1.1 < ((l.length : Nat) : Int)) then
    (grd (((0 : Int) ≤ b1.1 ∧ (b1.1 : Int) < ((l.length : Nat) : Int))) <|
    (wormtubref05_Point (MPoint.mk ((l.getD (Int.toNat b1.1) default).kind) (MSpan.mk (((l.getD (Int.toNat b1.1) default).flow).lo) (((l.getD (Int.toNat b1.1) default).flow).hi)) (MSpan.mk (((l.getD (Int.toNat b1.1) default).warm).lo) (((l.getD (Int.toNat b1.1) default).warm).hi)) (MSpan.mk (((l.getD (Int.toNat b1.1) default).heat).lo) (((l.getD (Int.toNat b1.1) default).heat).hi)) (MSpan.mk (((l.getD (Int.toNat b1.1) default).share).lo) (((l.getD (Int.toNat b1.1) default).share).hi)))).bind fun (r1 : Bool) =>
    (bif (!r1) then
    (some (Lp.ret ([], b1.1, 1)))
    else
    ((wormtubref05_behind (MWater.mk (MSpan.mk b1.2.1 b1.2.2.1) (MSpan.mk b1.2.2.2.1 b1.2.2.2.2.1)) (MPoint.mk ((l.getD (Int.toNat b1.1) default).kind) (MSpan.mk (((l.getD (Int.toNat b1.1) default).flow).lo) (((l.getD (Int.toNat b1.1) default).flow).hi)) (MSpan.mk (((l.getD (Int.toNat b1.1) default).warm).lo) (((l.getD (Int.toNat b1.1) default).warm).hi)) (MSpan.mk (((l.getD (Int.toNat b1.1) default).heat).lo) (((l.getD (Int.toNat b1.1) default).heat).hi)) (MSpan.mk (((l.getD (Int.toNat b1.1) default).share).lo) (((l.getD (Int.toNat b1.1) default).share).hi)))).bind fun (r2 : MWater) =>
    (bif decide (r2.flow.lo < 1) then
    (some (Lp.ret ([], b1.1, 10)))
    else
    ((bif (decide (1073741824 < r2.flow.hi) || decide (100000 < r2.warm.hi)) then
    (some (Lp.ret ([], b1.1, 12)))
    else
    (grd ((b1.2.2.2.2.2.length + 1 ≤ 1000000)) <|
    grd (InI64 (b1.1 + 1)) <|
    wormtubref05_flow_l1 l n ((b1.1 + 1), r2.flow.lo, r2.flow.hi, r2.warm.lo, r2.warm.hi, (b1.2.2.2.2.2 ++ [(MWater.mk (MSpan.mk r2.flow.lo r2.flow.hi) (MSpan.mk r2.warm.lo r2.warm.hi))])))))))))
    else
    (some (Lp.done b1.2.2.2.2.2)))
def wormtubref05_flow (fuel : Nat) (first : MWater) (l : List MPoint) : Option (List MWater × Int × Int) :=
(wormtubref05_flow_l1 l fuel (0, first.flow.lo, first.flow.hi, first.warm.lo, first.warm.hi, ([] : List MWater))).bind fun lr1 => lr1.go fun x1 => wormtubref05_flow_k1 l x1
set_option maxRecDepth 100000 in
set_option maxHeartbeats 4000000 in
theorem wormtubref05_flow_ok (fuel : Nat) (first : MWater) (l : List MPoint) (W : World) (A0 : Option Addr) (c0 : Nat) (h0 : l.length ≤ c0) (s0 : SlAt W A0 l.length 9 fun i => pZ (l.getD i default)) (res : List MWater × Int × Int) (h : wormtubref05_flow fuel first l = some res) :
    Calls Go.Proofs.Try.prog 37 #[.agg #[.int .i64 first.flow.lo, .int .i64 first.flow.hi, .int .i64 first.warm.lo, .int .i64 first.warm.hi], .slice A0 l.length c0] W fun e w' => ∃ v : Nat → Value, e = .returned (.tuple #[v 0, .int .i64 res.2.1, .int .i64 res.2.2]) ∧ Below W.heap.size W w' ∧ (∀ i, (v i).oneCell' = true) ∧ HeldIn (fun k => W.heap.size ≤ k) w' (SlicesAre 0 [(wQZ res.1)] v) := by
  refine sym_call (f := 37) (fn := Go.Proofs.Try.f37) (c := Go.Proofs.Try.f37.body.get rfl) Go.Proofs.Try.func37 rfl [.agg [iv (first.flow.lo), iv (first.flow.hi), iv (first.warm.lo), iv (first.warm.hi)], .sl 0] (wormtubref05_flow_R l) [] (envOf [(0, ⟨A0, l.length, c0, 9⟩)]) allR (fun _ _ => rfl) (by kernel_rfl) (envOf_one trivial) ⟨s0.rd h0, trivial⟩ (AllRR.all _ _) trivial fun E a w S => ?_
  rw [wormtubref05_flow] at h
  refine sym_seq lay_ok mixed [(0, { g := 0 })] [1, 2] [0] (⟨[(1, .sl 0), (2, .own 0 0)], ⟨[(0, .blk 25 [iv (first.flow.lo), iv (first.flow.hi), iv (first.warm.lo), iv (first.warm.hi)])], (wormtubref05_flow_R l), []⟩⟩) [] S (by kernel_rfl) (by kernel_rfl) (by kernel_rfl) trivial ?_
  clear S; intro E a w S
  refine sym_seq lay_ok mixed [] [1, 2, 7] [0] (⟨[(1, .sl 0), (2, .own 0 0), (7, .v (.slice none 0 0))], ⟨[(0, .blk 25 [iv (first.flow.lo), iv (first.flow.hi), iv (first.warm.lo), iv (first.warm.hi)])], (wormtubref05_flow_R l), []⟩⟩) [] S (by kernel_rfl) (by kernel_rfl) (by kernel_rfl) trivial ?_
  clear S; intro E a w S
  refine sym_seq lay_ok mixed [(1, { g := 1 })] [1, 7, 8] [1] (⟨[(1, .sl 0), (7, .v (.slice none 0 0)), (8, .own 1 0)], ⟨[(1, .blk 25 [iv (first.flow.lo), iv (first.flow.hi), iv (first.warm.lo), iv (first.warm.hi)])], (wormtubref05_flow_R l), []⟩⟩) [] S (by kernel_rfl) (by kernel_rfl) (by kernel_rfl) trivial ?_
  clear S; intro E a w S
  refine wp_seq ?_
  refine sym_seq lay_ok mixed [] [1, 7, 8, 9] [1] (⟨[(1, .sl 0), (7, .v (.slice none 0 0)), (8, .own 1 0), (9, iv (0))], ⟨[(1, .blk 25 [iv (first.flow.lo), iv (first.flow.hi), iv (first.warm.lo), iv (first.warm.hi)])], (wormtubref05_flow_R l), []⟩⟩) [] S (by kernel_rfl) (by kernel_rfl) (by kernel_rfl) trivial ?_
  clear S; intro E a w S
  have S := S.nilgr 0 25 4
  have S := S.reslot (t := 7) (sv' := .gr 0) rfl (by simp [SV.val, SV.subG, Env.updG_same])
  obtain ⟨E, S⟩ : ∃ E, St ⟨W, noC, Go.Proofs.Try.f37.ntmps, [], allR, noρ, (envOf [(0, ⟨A0, l.length, c0, 9⟩)]).sl, (envOf [(0, ⟨A0, l.length, c0, 9⟩)]).x⟩ (⟨[(1, .sl 0), (7, .gr 0), (8, .own 1 0), (9, iv (0))], ⟨[(1, .blk 25 [iv (first.flow.lo), iv (first.flow.hi), iv (first.warm.lo), iv (first.warm.hi)])], (wormtubref05_flow_R l), [(0, ⟨25, 4, ([] : List MWater).length, ([] : List MWater).flatMap (fun x => [.int .i64 x.flow.lo, .int .i64 x.flow.hi, .int .i64 x.warm.lo, .int .i64 x.warm.hi])⟩)]⟩⟩) E a w := ⟨_, St.pickG S [1, 7, 8, 9] [1] [0] (⟨[(1, .sl 0), (7, .gr 0), (8, .own 1 0), (9, iv (0))], ⟨[(1, .blk 25 [iv (first.flow.lo), iv (first.flow.hi), iv (first.warm.lo), iv (first.warm.hi)])], (wormtubref05_flow_R l), [(0, ⟨25, 4, ([] : List MWater).length, ([] : List MWater).flatMap (fun x => [.int .i64 x.flow.lo, .int .i64 x.flow.hi, .int .i64 x.warm.lo, .int .i64 x.warm.hi])⟩)]⟩⟩) (by kernel_rfl)⟩
  obtain ⟨lr1, e1, hp1⟩ := bind_some h
  clear h
  refine sym_block_last (G := fun a w => ∃ E, ∃ x1 : List MWater, wormtubref05_flow_k1 l x1 = some res ∧ St ⟨W, noC, Go.Proofs.Try.f37.ntmps, [], allR, noρ, (envOf [(0, ⟨A0, l.length, c0, 9⟩)]).sl, (envOf [(0, ⟨A0, l.length, c0, 9⟩)]).x⟩ (⟨[(1, .sl 0), (7, .gr 0)], ⟨[], (wormtubref05_flow_R l), [(0, ⟨25, 4, x1.length, x1.flatMap (fun x => [.int .i64 x.flow.lo, .int .i64 x.flow.hi, .int .i64 x.warm.lo, .int .i64 x.warm.hi])⟩)]⟩⟩) E a w) ?_ ?_
  · refine wp_loop_rounds fuel ?_
    refine sym_rounds (F := fun n b1 => wormtubref05_flow_l1 l n b1 = some lr1) (H := fun b1 => ⟨[(1, .sl 0), (7, .gr 0), (8, .own 1 0), (9, iv (b1.1))], ⟨[(1, .blk 25 [iv (b1.2.1), iv (b1.2.2.1), iv (b1.2.2.2.1), iv (b1.2.2.2.2.1)])], (wormtubref05_flow_R l), [(0, ⟨25, 4, b1.2.2.2.2.2.length, b1.2.2.2.2.2.flatMap (fun x => [.int .i64 x.flow.lo, .int .i64 x.flow.hi, .int .i64 x.warm.lo, .int .i64 x.warm.hi])⟩)]⟩⟩) (0, first.flow.lo, first.flow.hi, first.warm.lo, first.warm.hi, ([] : List MWater)) (fun b hb => by have hb : none = some lr1 := hb; cases hb) ?_ _ _ _ _ e1 (St.cast (P := Go.Proofs.Try.prog) [] [] [1, 7, 8, 9] [1] [0] _ [] (by kernel_rfl) trivial S)
    clear e1 S
    intro n b1 E a w h ih S
    rw [wormtubref05_flow_l1] at h
    refine wp_seq ?_
    refine sym_seq lay_ok mixed [] [1, 7, 8, 9, 14] [1] (⟨[(1, .sl 0), (7, .gr 0), (8, .own 1 0), (9, iv (b1.1)), (14, .v (.bool (decide (b1.1 < ((l.length : Nat) : Int)))))], ⟨[(1, .blk 25 [iv (b1.2.1), iv (b1.2.2.1), iv (b1.2.2.2.1), iv (b1.2.2.2.2.1)])], (wormtubref05_flow_R l), [(0, ⟨25, 4, b1.2.2.2.2.2.length, b1.2.2.2.2.2.flatMap (fun x => [.int .i64 x.flow.lo, .int .i64 x.flow.hi, .int .i64 x.warm.lo, .int .i64 x.warm.hi])⟩)]⟩⟩) [] S (by kernel_rfl) (by kernel_rfl) (by kernel_rfl) trivial ?_
    clear S; intro E a w S
    refine sym_if_last (b := decide (b1.1 < ((l.length : Nat) : Int))) S rfl (fun hb1 => ?_) (fun hb1 => ?_)
    · have h := bif_t hb1 h
      refine wp_skip ?_
      refine out_then_normal ?_
      refine wp_seq ?_
      refine wp_block ?_
      refine wp_seq ?_
      obtain ⟨g1, h⟩ := grd_some h
      obtain ⟨r1, e2, h⟩ := bind_some h
      refine sym_seq lay_ok mixed [(4, { res := .v (.bool r1) })] [1, 7, 8, 9, 22] [1] (⟨[(1, .sl 0), (7, .gr 0), (8, .own 1 0), (9, iv (b1.1)), (22, .v (.bool (!r1)))], ⟨[(1, .blk 25 [iv (b1.2.1), iv (b1.2.2.1), iv (b1.2.2.2.1), iv (b1.2.2.2.2.1)])], (wormtubref05_flow_R l), [(0, ⟨25, 4, b1.2.2.2.2.2.length, b1.2.2.2.2.2.flatMap (fun x => [.int .i64 x.flow.lo, .int .i64 x.flow.hi, .int .i64 x.warm.lo, .int .i64 x.warm.hi])⟩)]⟩⟩) [.idx b1.1 l.length, .idx b1.1 l.length, .call ⟨[], (wormtubref05_flow_R l), [(0, ⟨25, 4, b1.2.2.2.2.2.length, b1.2.2.2.2.2.flatMap (fun x => [.int .i64 x.flow.lo, .int .i64 x.flow.hi, .int .i64 x.warm.lo, .int .i64 x.warm.hi])⟩)]⟩ 24 [.agg [iv (((l.getD (Int.toNat b1.1) default).kind)), iv ((((l.getD (Int.toNat b1.1) default).flow).lo)), iv ((((l.getD (Int.toNat b1.1) default).flow).hi)), iv ((((l.getD (Int.toNat b1.1) default).warm).lo)), iv ((((l.getD (Int.toNat b1.1) default).warm).hi)), iv ((((l.getD (Int.toNat b1.1) default).heat).lo)), iv ((((l.getD (Int.toNat b1.1) default).heat).hi)), iv ((((l.getD (Int.toNat b1.1) default).share).lo)), iv ((((l.getD (Int.toNat b1.1) default).share).hi))]] (.v (.bool r1))] S (by kernel_rfl) (by kernel_rfl) (by kernel_rfl) ⟨g1, g1, ⟨enters_24, fun _ W _ hm => wormtubref05_Point_ok (MPoint.mk ((l.getD (Int.toNat b1.1) default).kind) (MSpan.mk (((l.getD (Int.toNat b1.1) default).flow).lo) (((l.getD (Int.toNat b1.1) default).flow).hi)) (MSpan.mk (((l.getD (Int.toNat b1.1) default).warm).lo) (((l.getD (Int.toNat b1.1) default).warm).hi)) (MSpan.mk (((l.getD (Int.toNat b1.1) default).heat).lo) (((l.getD (Int.toNat b1.1) default).heat).hi)) (MSpan.mk (((l.getD (Int.toNat b1.1) default).share).lo) (((l.getD (Int.toNat b1.1) default).share).hi))) W r1 e2⟩, trivial⟩ ?_
      clear S; intro E a w S
      refine sym_if_last (b := (!r1)) S rfl (fun hb2 => ?_) (fun hb2 => ?_)
      · have h := bif_t hb2 h
        refine sym_seq lay_ok mixed [] [4, 5, 6] [] (⟨[(4, .v (.slice none 0 0)), (5, iv (b1.1)), (6, iv (1))], ⟨[], (wormtubref05_flow_R l), [(0, ⟨25, 4, b1.2.2.2.2.2.length, b1.2.2.2.2.2.flatMap (fun x => [.int .i64 x.flow.lo, .int .i64 x.flow.hi, .int .i64 x.warm.lo, .int .i64 x.warm.hi])⟩)]⟩⟩) [] S (by kernel_rfl) (by kernel_rfl) (by kernel_rfl) trivial ?_
        clear S; intro E a w S
        refine wp_ret ?_
        refine out_then_ret ?_
        refine out_block_ret ?_
        refine out_then_ret ?_
        refine out_then_ret ?_
        refine out_block_ret ?_
        refine out_then_ret ?_
        refine out_then_ret ?_
        have hr := Option.some.inj h
        subst hr
        have hr := Option.some.inj hp1
        subst hr
        exact sym_ret lay_ok [.v (.slice none 0 0), iv (b1.1), iv (1)] (by kernel_rfl) rfl S ⟨vfun [.slice none 0 0], rfl, S.below rfl, vfun_one [.slice none 0 0] ⟨rfl, trivial⟩, ((HeldIn.true fun _ => ⟨_, _, rfl, Nat.le_refl _, SlAt.nil⟩).and (HeldIn.true fun _ => trivial))⟩
      · have h := bif_f hb2 h
        refine wp_skip ?_
        refine out_then_normal ?_
        obtain ⟨r2, e3, h⟩ := bind_some h
        refine sym_seq lay_ok mixed [(5, { res := .agg [iv (r2.flow.lo), iv (r2.flow.hi), iv (r2.warm.lo), iv (r2.warm.hi)] })] [1, 7, 8, 9] [1] (⟨[(1, .sl 0), (7, .gr 0), (8, .own 1 0), (9, iv (b1.1))], ⟨[(1, .blk 25 [iv (r2.flow.lo), iv (r2.flow.hi), iv (r2.warm.lo), iv (r2.warm.hi)])], (wormtubref05_flow_R l), [(0, ⟨25, 4, b1.2.2.2.2.2.length, b1.2.2.2.2.2.flatMap (fun x => [.int .i64 x.flow.lo, .int .i64 x.flow.hi, .int .i64 x.warm.lo, .int .i64 x.warm.hi])⟩)]⟩⟩) [.idx b1.1 l.length, .idx b1.1 l.length, .call ⟨[], (wormtubref05_flow_R l), [(0, ⟨25, 4, b1.2.2.2.2.2.length, b1.2.2.2.2.2.flatMap (fun x => [.int .i64 x.flow.lo, .int .i64 x.flow.hi, .int .i64 x.warm.lo, .int .i64 x.warm.hi])⟩)]⟩ 56 [.agg [iv (b1.2.1), iv (b1.2.2.1), iv (b1.2.2.2.1), iv (b1.2.2.2.2.1)], .agg [iv (((l.getD (Int.toNat b1.1) default).kind)), iv ((((l.getD (Int.toNat b1.1) default).flow).lo)), iv ((((l.getD (Int.toNat b1.1) default).flow).hi)), iv ((((l.getD (Int.toNat b1.1) default).warm).lo)), iv ((((l.getD (Int.toNat b1.1) default).warm).hi)), iv ((((l.getD (Int.toNat b1.1) default).heat).lo)), iv ((((l.getD (Int.toNat b1.1) default).heat).hi)), iv ((((l.getD (Int.toNat b1.1) default).share).lo)), iv ((((l.getD (Int.toNat b1.1) default).share).hi))]] (.agg [iv (r2.flow.lo), iv (r2.flow.hi), iv (r2.warm.lo), iv (r2.warm.hi)])] S (by kernel_rfl) (by kernel_rfl) (by kernel_rfl) ⟨g1, g1, ⟨enters_56, fun _ W _ hm => wormtubref05_behind_ok (MWater.mk (MSpan.mk b1.2.1 b1.2.2.1) (MSpan.mk b1.2.2.2.1 b1.2.2.2.2.1)) (MPoint.mk ((l.getD (Int.toNat b1.1) default).kind) (MSpan.mk (((l.getD (Int.toNat b1.1) default).flow).lo) (((l.getD (Int.toNat b1.1) default).flow).hi)) (MSpan.mk (((l.getD (Int.toNat b1.1) default).warm).lo) (((l.getD (Int.toNat b1.1) default).warm).hi)) (MSpan.mk (((l.getD (Int.toNat b1.1) default).heat).lo) (((l.getD (Int.toNat b1.1) default).heat).hi)) (MSpan.mk (((l.getD (Int.toNat b1.1) default).share).lo) (((l.getD (Int.toNat b1.1) default).share).hi))) W r2 e3⟩, trivial⟩ ?_
        clear S; intro E a w S
        refine wp_seq ?_
        refine sym_seq lay_ok mixed [] [1, 7, 8, 9, 33] [1] (⟨[(1, .sl 0), (7, .gr 0), (8, .own 1 0), (9, iv (b1.1)), (33, .v (.bool (decide (r2.flow.lo < 1))))], ⟨[(1, .blk 25 [iv (r2.flow.lo), iv (r2.flow.hi), iv (r2.warm.lo), iv (r2.warm.hi)])], (wormtubref05_flow_R l), [(0, ⟨25, 4, b1.2.2.2.2.2.length, b1.2.2.2.2.2.flatMap (fun x => [.int .i64 x.flow.lo, .int .i64 x.flow.hi, .int .i64 x.warm.lo, .int .i64 x.warm.hi])⟩)]⟩⟩) [] S (by kernel_rfl) (by kernel_rfl) (by kernel_rfl) trivial ?_
        clear S; intro E a w S
        refine sym_if_last (b := decide (r2.flow.lo < 1)) S rfl (fun hb3 => ?_) (fun hb3 => ?_)
        · have h := bif_t hb3 h
          refine sym_seq lay_ok mixed [] [4, 5, 6] [] (⟨[(4, .v (.slice none 0 0)), (5, iv (b1.1)), (6, iv (10))], ⟨[], (wormtubref05_flow_R l), [(0, ⟨25, 4, b1.2.2.2.2.2.length, b1.2.2.2.2.2.flatMap (fun x => [.int .i64 x.flow.lo, .int .i64 x.flow.hi, .int .i64 x.warm.lo, .int .i64 x.warm.hi])⟩)]⟩⟩) [] S (by kernel_rfl) (by kernel_rfl) (by kernel_rfl) trivial ?_
          clear S; intro E a w S
          refine wp_ret ?_
          refine out_then_ret ?_
          refine out_block_ret ?_
          refine out_then_ret ?_
          refine out_then_ret ?_
          refine out_block_ret ?_
          refine out_then_ret ?_
          refine out_then_ret ?_
          have hr := Option.some.inj h
          subst hr
          have hr := Option.some.inj hp1
          subst hr
          exact sym_ret lay_ok [.v (.slice none 0 0), iv (b1.1), iv (10)] (by kernel_rfl) rfl S ⟨vfun [.slice none 0 0], rfl, S.below rfl, vfun_one [.slice none 0 0] ⟨rfl, trivial⟩, ((HeldIn.true fun _ => ⟨_, _, rfl, Nat.le_refl _, SlAt.nil⟩).and (HeldIn.true fun _ => trivial))⟩
        · have h := bif_f hb3 h
          refine wp_skip ?_
          refine out_then_normal ?_
          refine wp_seq ?_
          refine sym_seq lay_ok mixed [(5, { og := true }), (6, { og := true }), (7, { og := true }), (8, { og := true }), (9, { pk := true })] [1, 7, 8, 9, 44] [1] (⟨[(1, .sl 0), (7, .gr 0), (8, .own 1 0), (9, iv (b1.1)), (44, .v (.bool (decide (1073741824 < r2.flow.hi) || decide (100000 < r2.warm.hi))))], ⟨[(1, .blk 25 [iv (r2.flow.lo), iv (r2.flow.hi), iv (r2.warm.lo), iv (r2.warm.hi)])], (wormtubref05_flow_R l), [(0, ⟨25, 4, b1.2.2.2.2.2.length, b1.2.2.2.2.2.flatMap (fun x => [.int .i64 x.flow.lo, .int .i64 x.flow.hi, .int .i64 x.warm.lo, .int .i64 x.warm.hi])⟩)]⟩⟩) [.imp (!(decide (1073741824 < r2.flow.hi))) (!(decide (1073741824 < r2.flow.hi))), .imp (!(decide (1073741824 < r2.flow.hi))) (!(decide (1073741824 < r2.flow.hi))), .imp (!(decide (1073741824 < r2.flow.hi))) (!(decide (1073741824 < r2.flow.hi))), .imp (!(decide (1073741824 < r2.flow.hi))) (!(decide (1073741824 < r2.flow.hi)))] S (by kernel_rfl) (by kernel_rfl) (by kernel_rfl) ⟨fun h => h, fun h => h, fun h => h, fun h => h, trivial⟩ ?_
          clear S; intro E a w S
          refine sym_if_last (b := (decide (1073741824 < r2.flow.hi) || decide (100000 < r2.warm.hi))) S rfl (fun hb4 => ?_) (fun hb4 => ?_)
          · have h := bif_t hb4 h
            refine sym_seq lay_ok mixed [] [4, 5, 6] [] (⟨[(4, .v (.slice none 0 0)), (5, iv (b1.1)), (6, iv (12))], ⟨[], (wormtubref05_flow_R l), [(0, ⟨25, 4, b1.2.2.2.2.2.length, b1.2.2.2.2.2.flatMap (fun x => [.int .i64 x.flow.lo, .int .i64 x.flow.hi, .int .i64 x.warm.lo, .int .i64 x.warm.hi])⟩)]⟩⟩) [] S (by kernel_rfl) (by kernel_rfl) (by kernel_rfl) trivial ?_
            clear S; intro E a w S
            refine wp_ret ?_
            refine out_then_ret ?_
            refine out_block_ret ?_
            refine out_then_ret ?_
            refine out_then_ret ?_
            refine out_block_ret ?_
            refine out_then_ret ?_
            refine out_then_ret ?_
            have hr := Option.some.inj h
            subst hr
            have hr := Option.some.inj hp1
            subst hr
            exact sym_ret lay_ok [.v (.slice none 0 0), iv (b1.1), iv (12)] (by kernel_rfl) rfl S ⟨vfun [.slice none 0 0], rfl, S.below rfl, vfun_one [.slice none 0 0] ⟨rfl, trivial⟩, ((HeldIn.true fun _ => ⟨_, _, rfl, Nat.le_refl _, SlAt.nil⟩).and (HeldIn.true fun _ => trivial))⟩
          · have h := bif_f hb4 h
            refine wp_skip ?_
            refine out_then_normal ?_
            obtain ⟨g2, h⟩ := grd_some h
            refine sym_open_last ?_
            refine sym_runP lay_ok [(2, { g := 3 })] 0 3 [1, 7, 8, 9, 46, 48] [1, 3] (⟨[(1, .sl 0), (7, .gr 0), (8, .own 1 0), (9, iv (b1.1)), (46, .gr 0), (48, .row 3 0 1 1)], ⟨[(1, .blk 25 [iv (r2.flow.lo), iv (r2.flow.hi), iv (r2.warm.lo), iv (r2.warm.hi)]), (3, .blk 25 [iv (r2.flow.lo), iv (r2.flow.hi), iv (r2.warm.lo), iv (r2.warm.hi)])], (wormtubref05_flow_R l), [(0, ⟨25, 4, b1.2.2.2.2.2.length, b1.2.2.2.2.2.flatMap (fun x => [.int .i64 x.flow.lo, .int .i64 x.flow.hi, .int .i64 x.warm.lo, .int .i64 x.warm.hi])⟩)]⟩⟩) [] S (by kernel_rfl) (by kernel_rfl) trivial ?_
            clear S; intro E a w S
            refine sym_append lay_ok rfl (.tmp 46) (.tmp 48) 29 rfl rfl S 0 3 0 1 1 25 [iv (r2.flow.lo), iv (r2.flow.hi), iv (r2.warm.lo), iv (r2.warm.hi)] ⟨25, 4, b1.2.2.2.2.2.length, b1.2.2.2.2.2.flatMap (fun x => [.int .i64 x.flow.lo, .int .i64 x.flow.hi, .int .i64 x.warm.lo, .int .i64 x.warm.hi])⟩ ⟨.str [(0, 2, true), (2, 2, true)], 4, [.int .i64 0, .int .i64 0, .int .i64 0, .int .i64 0], true, 32⟩ ⟨.sli 25 4, 1, [.slice none 0 0], false, 24⟩ rfl rfl rfl rfl rfl rfl rfl rfl (show 0 < 4 by decide) rfl rfl (fun e he => by cases he; exact Nat.lt_of_succ_le (Nat.le_of_ble_eq_true rfl)) ⟨25, 4, (b1.2.2.2.2.2 ++ [(MWater.mk (MSpan.mk r2.flow.lo r2.flow.hi) (MSpan.mk r2.warm.lo r2.warm.hi))]).length, (b1.2.2.2.2.2 ++ [(MWater.mk (MSpan.mk r2.flow.lo r2.flow.hi) (MSpan.mk r2.warm.lo r2.warm.hi))]).flatMap (fun x => [.int .i64 x.flow.lo, .int .i64 x.flow.hi, .int .i64 x.warm.lo, .int .i64 x.warm.hi])⟩ rfl rfl (by simp) (fun E => by simp [SV.vals, SV.val]) (Nat.le_trans g2 (by decide)) (show (b1.2.2.2.2.2.length + 1) * 32 ≤ 140737488355328 by have := g2; omega) rfl ?_
            clear S; intro v0 E a w S; have S := St.pickG S [1, 8, 9, 48, 49] [1, 3] [0] (⟨[(1, .sl 0), (8, .own 1 0), (9, iv (b1.1)), (48, .row 3 0 1 1), (49, .gr 0)], ⟨[(1, .blk 25 [iv (r2.flow.lo), iv (r2.flow.hi), iv (r2.warm.lo), iv (r2.warm.hi)]), (3, .blk 25 [iv (r2.flow.lo), iv (r2.flow.hi), iv (r2.warm.lo), iv (r2.warm.hi)])], (wormtubref05_flow_R l), [(0, ⟨25, 4, (b1.2.2.2.2.2 ++ [(MWater.mk (MSpan.mk r2.flow.lo r2.flow.hi) (MSpan.mk r2.warm.lo r2.warm.hi))]).length, (b1.2.2.2.2.2 ++ [(MWater.mk (MSpan.mk r2.flow.lo r2.flow.hi) (MSpan.mk r2.warm.lo r2.warm.hi))]).flatMap (fun x => [.int .i64 x.flow.lo, .int .i64 x.flow.hi, .int .i64 x.warm.lo, .int .i64 x.warm.hi])⟩)]⟩⟩) (by kernel_rfl)
            refine sym_runP lay_ok [] 4 1 [1, 8, 9, 7] [1] (⟨[(1, .sl 0), (8, .own 1 0), (9, iv (b1.1)), (7, .gr 0)], ⟨[(1, .blk 25 [iv (r2.flow.lo), iv (r2.flow.hi), iv (r2.warm.lo), iv (r2.warm.hi)])], (wormtubref05_flow_R l), [(0, ⟨25, 4, (b1.2.2.2.2.2 ++ [(MWater.mk (MSpan.mk r2.flow.lo r2.flow.hi) (MSpan.mk r2.warm.lo r2.warm.hi))]).length, (b1.2.2.2.2.2 ++ [(MWater.mk (MSpan.mk r2.flow.lo r2.flow.hi) (MSpan.mk r2.warm.lo r2.warm.hi))]).flatMap (fun x => [.int .i64 x.flow.lo, .int .i64 x.flow.hi, .int .i64 x.warm.lo, .int .i64 x.warm.hi])⟩)]⟩⟩) [] S (by kernel_rfl) (by kernel_rfl) trivial ?_
            clear S; intro E a w S
            refine sym_done rfl ?_
            have S := St.pickG S [1, 8, 9, 7] [1] [0] (⟨[(1, .sl 0), (8, .own 1 0), (9, iv (b1.1)), (7, .gr 0)], ⟨[(1, .blk 25 [iv (r2.flow.lo), iv (r2.flow.hi), iv (r2.warm.lo), iv (r2.warm.hi)])], (wormtubref05_flow_R l), [(0, ⟨25, 4, (b1.2.2.2.2.2 ++ [(MWater.mk (MSpan.mk r2.flow.lo r2.flow.hi) (MSpan.mk r2.warm.lo r2.warm.hi))]).length, (b1.2.2.2.2.2 ++ [(MWater.mk (MSpan.mk r2.flow.lo r2.flow.hi) (MSpan.mk r2.warm.lo r2.warm.hi))]).flatMap (fun x => [.int .i64 x.flow.lo, .int .i64 x.flow.hi, .int .i64 x.warm.lo, .int .i64 x.warm.hi])⟩)]⟩⟩) (by kernel_rfl)
            refine out_block_normal ?_
            refine out_then_normal ?_
            obtain ⟨g3, h⟩ := grd_some h
            refine sym_last lay_ok mixed [] [1, 8, 9, 7] [1] (⟨[(1, .sl 0), (8, .own 1 0), (9, iv ((b1.1 + 1))), (7, .gr 0)], ⟨[(1, .blk 25 [iv (r2.flow.lo), iv (r2.flow.hi), iv (r2.warm.lo), iv (r2.warm.hi)])], (wormtubref05_flow_R l), [(0, ⟨25, 4, (b1.2.2.2.2.2 ++ [(MWater.mk (MSpan.mk r2.flow.lo r2.flow.hi) (MSpan.mk r2.warm.lo r2.warm.hi))]).length, (b1.2.2.2.2.2 ++ [(MWater.mk (MSpan.mk r2.flow.lo r2.flow.hi) (MSpan.mk r2.warm.lo r2.warm.hi))]).flatMap (fun x => [.int .i64 x.flow.lo, .int .i64 x.flow.hi, .int .i64 x.warm.lo, .int .i64 x.warm.hi])⟩)]⟩⟩) [.rng .i64 (b1.1 + 1)] S (by kernel_rfl) (by kernel_rfl) (by kernel_rfl) ⟨rngI64 g3, trivial⟩ ?_
            clear S; intro E a w S
            refine out_then_normal ?_
            exact ih ((b1.1 + 1), r2.flow.lo, r2.flow.hi, r2.warm.lo, r2.warm.hi, (b1.2.2.2.2.2 ++ [(MWater.mk (MSpan.mk r2.flow.lo r2.flow.hi) (MSpan.mk r2.warm.lo r2.warm.hi))])) _ _ _ h (St.cast (P := Go.Proofs.Try.prog) [] [] [1, 7, 8, 9] [1] [0] _ [] (by kernel_rfl) trivial S)
    · have h := bif_f hb1 h
      refine wp_exit ?_
      refine out_then_exit ?_
      refine out_then_exit ?_
      refine out_block_here ?_
      refine out_then_normal ?_
      have hr := Option.some.inj h
      subst hr
      exact ⟨_, b1.2.2.2.2.2, hp1, St.cast (P := Go.Proofs.Try.prog) [] [] [1, 7] [] [0] _ [] (by kernel_rfl) trivial S⟩
  clear e1 S
  rintro a w ⟨E, x1, h, S⟩
  rw [wormtubref05_flow_k1] at h
  refine out_then_normal ?_
  refine sym_seq lay_ok mixed [] [4, 5, 6] [] (⟨[(4, .gr 0), (5, iv (((l.length : Nat) : Int))), (6, iv (0))], ⟨[], (wormtubref05_flow_R l), [(0, ⟨25, 4, x1.length, x1.flatMap (fun x => [.int .i64 x.flow.lo, .int .i64 x.flow.hi, .int .i64 x.warm.lo, .int .i64 x.warm.hi])⟩)]⟩⟩) [] S (by kernel_rfl) (by kernel_rfl) (by kernel_rfl) trivial ?_
  clear S; intro E a w S
  refine wp_ret ?_
  have h := Option.some.inj h
  subst h
  exact sym_ret lay_ok [.gr 0, iv (((l.length : Nat) : Int)), iv (0)] (by kernel_rfl) rfl S ⟨vfun [E.gr 0], rfl, S.below rfl, vfun_one [E.gr 0] ⟨(S.gr_one (k := 0) rfl), trivial⟩, (((S.mem.gr 0 _ rfl).slice (S.gr_new rfl (k := 0) rfl) 0 (vfun [E.gr 0]) rfl _ (flat_get (fun x => [.int .i64 x.flow.lo, .int .i64 x.flow.hi, .int .i64 x.warm.lo, .int .i64 x.warm.hi]) 4 (fun _ => rfl) x1)).and (HeldIn.true fun _ => trivial))⟩
def stream_validRoom_1 (n0 : Int) : Option Bool :=
some (decide (n0 < 0) || decide (8796093022208 < n0))
set_option maxRecDepth 100000 in
set_option maxHeartbeats 4000000 in
theorem stream_validRoom_1_ok (n0 : Int) (W : World)  (res : Bool) (h : stream_validRoom_1 n0 = some res) :
    Calls Go.Proofs.Try.prog 60 #[.int .i64 n0] W fun e w' => e = .returned (.bool res) ∧ Below W.heap.size W w' := by
  refine sym_call (f := 60) (fn := Go.Proofs.Try.f60) (c := Go.Proofs.Try.f60.body.get rfl) Go.Proofs.Try.func60 rfl [iv (n0)] [] [] (envOf []) allR (fun _ _ => rfl) (by kernel_rfl) (envOf_one trivial) trivial (AllRR.all _ _) trivial fun E a w S => ?_
  rw [stream_validRoom_1] at h
  refine sym_seq lay_ok mixed [] [0] [] (⟨[(0, iv (n0))], ⟨[], [], []⟩⟩) [] S (by kernel_rfl) (by kernel_rfl) (by kernel_rfl) trivial ?_
  clear S; intro E a w S
  refine sym_seq lay_ok mixed [(3, { og := true }), (4, { og := true }), (5, { pk := true })] [2] [] (⟨[(2, .v (.bool (decide (n0 < 0) || decide (8796093022208 < n0))))], ⟨[], [], []⟩⟩) [.imp (!(decide (n0 < 0))) (!(decide (n0 < 0))), .imp (!(decide (n0 < 0))) (!(decide (n0 < 0)))] S (by kernel_rfl) (by kernel_rfl) (by kernel_rfl) ⟨fun h => h, fun h => h, trivial⟩ ?_
  clear S; intro E a w S
  refine wp_ret ?_
  have h := Option.some.inj h
  subst h
  exact sym_ret lay_ok [.v (.bool (decide (n0 < 0) || decide (8796093022208 < n0)))] (by kernel_rfl) rfl S ⟨rfl, S.below rfl⟩
def stream_validRuns_R (l : List MBurner) : List (Nat × Q) := [(0, (bQZ l))]
def stream_validRuns_k1  (x1 : Unit) : Option Bool :=
some true
def stream_validRuns_l1 (l : List MBurner) (count : Int) : Nat → Int → Option (Lp Unit Bool)
  | 0, _ => none
  | n + 1, b1 =>
    (bif decide (b1 < ((l.length : Nat) : Int)) then
    (grd (((0 : Int) ≤ b1 ∧ (b1 : Int) < ((l.length : Nat) : Int))) <|
    grd (((!(((decide (((l.getD (Int.toNat b1) default).ready) < 0) || decide (count < ((l.getD (Int.toNat b1) default).due))) || decide (((l.getD (Int.toNat b1) default).due) ≤ ((l.getD (Int.toNat b1) default).ready))) || decide (((l.getD (Int.toNat b1) default).hours) < 1))) = true → InI64 (((l.getD (Int.toNat b1) default).due) - ((l.getD (Int.toNat b1) default).ready)))) <|
    (bif ((((((decide (((l.getD (Int.toNat b1) default).ready) < 0) || decide (count < ((l.getD (Int.toNat b1) default).due))) || decide (((l.getD (Int.toNat b1) default).due) ≤ ((l.getD (Int.toNat b1) default).ready))) || decide (((l.getD (Int.toNat b1) default).hours) < 1)) || decide ((((l.getD (Int.toNat b1) default).due) - ((l.getD (Int.toNat b1) default).ready)) < ((l.getD (Int.toNat b1) default).hours))) || decide (((l.getD (Int.toNat b1) default).heat) < 0)) || decide (1099511627776 < ((l.getD (Int.toNat b1) default).heat))) then
    (some (Lp.ret false))
    else
    (grd (InI64 (b1 + 1)) <|
    stream_validRuns_l1 l count n (b1 + 1))))
    else
    (some (Lp.done ())))
def stream_validRuns (fuel : Nat) (l : List MBurner) (count : Int) : Option Bool :=
(bif decide (6 < ((l.length : Nat) : Int)) then
(some false)
else
((stream_validRuns_l1 l count fuel 0).bind fun lr1 => lr1.go fun x1 => stream_validRuns_k1 x1))
set_option maxRecDepth 100000 in
set_option maxHeartbeats 4000000 in
theorem stream_validRuns_ok (fuel : Nat) (l : List MBurner) (count : Int) (W : World) (A0 : Option Addr) (c0 : Nat) (h0 : l.length ≤ c0) (s0 : SlAt W A0 l.length 4 fun i => bZ (l.getD i default)) (res : Bool) (h : stream_validRuns fuel l count = some res) :
    Calls Go.Proofs.Try.prog 46 #[.slice A0 l.length c0, .int .i64 count] W fun e w' => e = .returned (.bool res) ∧ Below W.heap.size W w' := by
  refine sym_call (f := 46) (fn := Go.Proofs.Try.f46) (c := Go.Proofs.Try.f46.body.get rfl) Go.Proofs.Try.func46 rfl [.sl 0, iv (count)] (stream_validRuns_R l) [] (envOf [(0, ⟨A0, l.length, c0, 4⟩)]) allR (fun _ _ => rfl) (by kernel_rfl) (envOf_one trivial) ⟨s0.rd h0, trivial⟩ (AllRR.all _ _) trivial fun E a w S => ?_
  rw [stream_validRuns] at h
  refine sym_seq lay_ok mixed [] [0, 1] [] (⟨[(0, .sl 0), (1, iv (count))], ⟨[], (stream_validRuns_R l), []⟩⟩) [] S (by kernel_rfl) (by kernel_rfl) (by kernel_rfl) trivial ?_
  clear S; intro E a w S
  refine wp_seq ?_
  refine sym_seq lay_ok mixed [] [0, 1, 9] [] (⟨[(0, .sl 0), (1, iv (count)), (9, .v (.bool (decide (6 < ((l.length : Nat) : Int)))))], ⟨[], (stream_validRuns_R l), []⟩⟩) [] S (by kernel_rfl) (by kernel_rfl) (by kernel_rfl) trivial ?_
  clear S; intro E a w S
  refine sym_if_last (b := decide (6 < ((l.length : Nat) : Int))) S rfl (fun hb1 => ?_) (fun hb1 => ?_)
  · have h := bif_t hb1 h
    refine sym_seq lay_ok mixed [] [4] [] (⟨[(4, .v (.bool false))], ⟨[], (stream_validRuns_R l), []⟩⟩) [] S (by kernel_rfl) (by kernel_rfl) (by kernel_rfl) trivial ?_
    clear S; intro E a w S
    refine wp_ret ?_
    refine out_then_ret ?_
    have h := Option.some.inj h
    subst h
    exact sym_ret lay_ok [.v (.bool false)] (by kernel_rfl) rfl S ⟨rfl, S.below rfl⟩
  · have h := bif_f hb1 h
    refine wp_skip ?_
    refine out_then_normal ?_
    refine wp_seq ?_
    refine sym_seq lay_ok mixed [] [1, 10, 11, 12] [] (⟨[(1, iv (count)), (10, .sl 0), (11, iv (((l.length : Nat) : Int))), (12, iv (0))], ⟨[], (stream_validRuns_R l), []⟩⟩) [] S (by kernel_rfl) (by kernel_rfl) (by kernel_rfl) trivial ?_
    clear S; intro E a w S
    obtain ⟨lr1, e1, hp1⟩ := bind_some h
    clear h
    refine sym_block_last (G := fun a w => ∃ E, ∃ x1 : Unit, stream_validRuns_k1 x1 = some res ∧ St ⟨W, noC, Go.Proofs.Try.f46.ntmps, [], allR, noρ, (envOf [(0, ⟨A0, l.length, c0, 4⟩)]).sl, (envOf [(0, ⟨A0, l.length, c0, 4⟩)]).x⟩ (⟨[], ⟨[], (stream_validRuns_R l), []⟩⟩) E a w) ?_ ?_
    · refine wp_loop_rounds fuel ?_
      refine sym_rounds (F := fun n b1 => stream_validRuns_l1 l count n b1 = some lr1) (H := fun b1 => ⟨[(1, iv (count)), (10, .sl 0), (11, iv (((l.length : Nat) : Int))), (12, iv (b1))], ⟨[], (stream_validRuns_R l), []⟩⟩) 0 (fun b hb => by have hb : none = some lr1 := hb; cases hb) ?_ _ _ _ _ e1 (St.cast (P := Go.Proofs.Try.prog) [] [] [1, 10, 11, 12] [] [0] _ [] (by kernel_rfl) trivial S)
      clear e1 S
      intro n b1 E a w h ih S
      rw [stream_validRuns_l1] at h
      refine sym_seq lay_ok mixed [] [1, 10, 11, 12, 13] [] (⟨[(1, iv (count)), (10, .sl 0), (11, iv (((l.length : Nat) : Int))), (12, iv (b1)), (13, .v (.bool (decide (b1 < ((l.length : Nat) : Int)))))], ⟨[], (stream_validRuns_R l), []⟩⟩) [] S (by kernel_rfl) (by kernel_rfl) (by kernel_rfl) trivial ?_
      clear S; intro E a w S
      refine sym_if (b := decide (b1 < ((l.length : Nat) : Int))) S rfl (fun hb2 => ?_) (fun hb2 => ?_)
      · have h := bif_t hb2 h
        refine wp_skip ?_
        refine out_then_normal ?_
        refine wp_seq ?_
        refine wp_block ?_
        obtain ⟨g1, h⟩ := grd_some h
        refine sym_seq lay_ok mixed [(2, { g := 1 })] [1, 10, 11, 12, 6] [1] (⟨[(1, iv (count)), (10, .sl 0), (11, iv (((l.length : Nat) : Int))), (12, iv (b1)), (6, .own 1 0)], ⟨[(1, .blk 67 [iv (((l.getD (Int.toNat b1) default).ready)), iv (((l.getD (Int.toNat b1) default).due)), iv (((l.getD (Int.toNat b1) default).hours)), iv (((l.getD (Int.toNat b1) default).heat))])], (stream_validRuns_R l), []⟩⟩) [.idx b1 l.length, .idx b1 l.length] S (by kernel_rfl) (by kernel_rfl) (by kernel_rfl) ⟨g1, g1, trivial⟩ ?_
        clear S; intro E a w S
        obtain ⟨g2, h⟩ := grd_some h
        refine sym_seq lay_ok mixed [(4, { og := true }), (5, { og := true }), (6, { og := true }), (7, { og := true }), (8, { pk := true }), (10, { og := true }), (11, { og := true }), (12, { og := true }), (13, { og := true }), (14, { og := true }), (15, { pk := true }), (17, { og := true }), (18, { og := true }), (19, { og := true }), (20, { pk := true }), (22, { og := true }), (23, { og := true }), (24, { og := true }), (25, { og := true }), (26, { og := true }), (27, { og := true }), (28, { og := true }), (29, { og := true }), (30, { pk := true }), (32, { og := true }), (33, { og := true }), (34, { og := true }), (35, { pk := true }), (37, { og := true }), (38, { og := true }), (39, { og := true }), (40, { pk := true })] [1, 10, 11, 12, 56] [] (⟨[(1, iv (count)), (10, .sl 0), (11, iv (((l.length : Nat) : Int))), (12, iv (b1)), (56, .v (.bool ((((((decide (((l.getD (Int.toNat b1) default).ready) < 0) || decide (count < ((l.getD (Int.toNat b1) default).due))) || decide (((l.getD (Int.toNat b1) default).due) ≤ ((l.getD (Int.toNat b1) default).ready))) || decide (((l.getD (Int.toNat b1) default).hours) < 1)) || decide ((((l.getD (Int.toNat b1) default).due) - ((l.getD (Int.toNat b1) default).ready)) < ((l.getD (Int.toNat b1) default).hours))) || decide (((l.getD (Int.toNat b1) default).heat) < 0)) || decide (1099511627776 < ((l.getD (Int.toNat b1) default).heat)))))], ⟨[], (stream_validRuns_R l), []⟩⟩) [.imp (!(decide (((l.getD (Int.toNat b1) default).ready) < 0))) (!(decide (((l.getD (Int.toNat b1) default).ready) < 0))), .imp (!(decide (((l.getD (Int.toNat b1) default).ready) < 0))) (!(decide (((l.getD (Int.toNat b1) default).ready) < 0))), .imp (!(decide (((l.getD (Int.toNat b1) default).ready) < 0))) (!(decide (((l.getD (Int.toNat b1) default).ready) < 0))), .imp (!(decide (((l.getD (Int.toNat b1) default).ready) < 0))) (!(decide (((l.getD (Int.toNat b1) default).ready) < 0))), .imp (!(decide (((l.getD (Int.toNat b1) default).ready) < 0) || decide (count < ((l.getD (Int.toNat b1) default).due)))) (!(decide (((l.getD (Int.toNat b1) default).ready) < 0) || decide (count < ((l.getD (Int.toNat b1) default).due)))), .imp (!(decide (((l.getD (Int.toNat b1) default).ready) < 0) || decide (count < ((l.getD (Int.toNat b1) default).due)))) (!(decide (((l.getD (Int.toNat b1) default).ready) < 0) || decide (count < ((l.getD (Int.toNat b1) default).due)))), .imp (!(decide (((l.getD (Int.toNat b1) default).ready) < 0) || decide (count < ((l.getD (Int.toNat b1) default).due)))) (!(decide (((l.getD (Int.toNat b1) default).ready) < 0) || decide (count < ((l.getD (Int.toNat b1) default).due)))), .imp (!(decide (((l.getD (Int.toNat b1) default).ready) < 0) || decide (count < ((l.getD (Int.toNat b1) default).due)))) (!(decide (((l.getD (Int.toNat b1) default).ready) < 0) || decide (count < ((l.getD (Int.toNat b1) default).due)))), .imp (!(decide (((l.getD (Int.toNat b1) default).ready) < 0) || decide (count < ((l.getD (Int.toNat b1) default).due)))) (!(decide (((l.getD (Int.toNat b1) default).ready) < 0) || decide (count < ((l.getD (Int.toNat b1) default).due)))), .imp (!((decide (((l.getD (Int.toNat b1) default).ready) < 0) || decide (count < ((l.getD (Int.toNat b1) default).due))) || decide (((l.getD (Int.toNat b1) default).due) ≤ ((l.getD (Int.toNat b1) default).ready)))) (!((decide (((l.getD (Int.toNat b1) default).ready) < 0) || decide (count < ((l.getD (Int.toNat b1) default).due))) || decide (((l.getD (Int.toNat b1) default).due) ≤ ((l.getD (Int.toNat b1) default).ready)))), .imp (!((decide (((l.getD (Int.toNat b1) default).ready) < 0) || decide (count < ((l.getD (Int.toNat b1) default).due))) || decide (((l.getD (Int.toNat b1) default).due) ≤ ((l.getD (Int.toNat b1) default).ready)))) (!((decide (((l.getD (Int.toNat b1) default).ready) < 0) || decide (count < ((l.getD (Int.toNat b1) default).due))) || decide (((l.getD (Int.toNat b1) default).due) ≤ ((l.getD (Int.toNat b1) default).ready)))), .imp (!((decide (((l.getD (Int.toNat b1) default).ready) < 0) || decide (count < ((l.getD (Int.toNat b1) default).due))) || decide (((l.getD (Int.toNat b1) default).due) ≤ ((l.getD (Int.toNat b1) default).ready)))) (!((decide (((l.getD (Int.toNat b1) default).ready) < 0) || decide (count < ((l.getD (Int.toNat b1) default).due))) || decide (((l.getD (Int.toNat b1) default).due) ≤ ((l.getD (Int.toNat b1) default).ready)))), .imp (!(((decide (((l.getD (Int.toNat b1) default).ready) < 0) || decide (count < ((l.getD (Int.toNat b1) default).due))) || decide (((l.getD (Int.toNat b1) default).due) ≤ ((l.getD (Int.toNat b1) default).ready))) || decide (((l.getD (Int.toNat b1) default).hours) < 1))) (!(((decide (((l.getD (Int.toNat b1) default).ready) < 0) || decide (count < ((l.getD (Int.toNat b1) default).due))) || decide (((l.getD (Int.toNat b1) default).due) ≤ ((l.getD (Int.toNat b1) default).ready))) || decide (((l.getD (Int.toNat b1) default).hours) < 1))), .imp (!(((decide (((l.getD (Int.toNat b1) default).ready) < 0) || decide (count < ((l.getD (Int.toNat b1) default).due))) || decide (((l.getD (Int.toNat b1) default).due) ≤ ((l.getD (Int.toNat b1) default).ready))) || decide (((l.getD (Int.toNat b1) default).hours) < 1))) (!(((decide (((l.getD (Int.toNat b1) default).ready) < 0) || decide (count < ((l.getD (Int.toNat b1) default).due))) || decide (((l.getD (Int.toNat b1) default).due) ≤ ((l.getD (Int.toNat b1) default).ready))) || decide (((l.getD (Int.toNat b1) default).hours) < 1))), .imp (!(((decide (((l.getD (Int.toNat b1) default).ready) < 0) || decide (count < ((l.getD (Int.toNat b1) default).due))) || decide (((l.getD (Int.toNat b1) default).due) ≤ ((l.getD (Int.toNat b1) default).ready))) || decide (((l.getD (Int.toNat b1) default).hours) < 1))) (!(((decide (((l.getD (Int.toNat b1) default).ready) < 0) || decide (count < ((l.getD (Int.toNat b1) default).due))) || decide (((l.getD (Int.toNat b1) default).due) ≤ ((l.getD (Int.toNat b1) default).ready))) || decide (((l.getD (Int.toNat b1) default).hours) < 1))), .imp (!(((decide (((l.getD (Int.toNat b1) default).ready) < 0) || decide (count < ((l.getD (Int.toNat b1) default).due))) || decide (((l.getD (Int.toNat b1) default).due) ≤ ((l.getD (Int.toNat b1) default).ready))) || decide (((l.getD (Int.toNat b1) default).hours) < 1))) (!(((decide (((l.getD (Int.toNat b1) default).ready) < 0) || decide (count < ((l.getD (Int.toNat b1) default).due))) || decide (((l.getD (Int.toNat b1) default).due) ≤ ((l.getD (Int.toNat b1) default).ready))) || decide (((l.getD (Int.toNat b1) default).hours) < 1))), .imp (!(((decide (((l.getD (Int.toNat b1) default).ready) < 0) || decide (count < ((l.getD (Int.toNat b1) default).due))) || decide (((l.getD (Int.toNat b1) default).due) ≤ ((l.getD (Int.toNat b1) default).ready))) || decide (((l.getD (Int.toNat b1) default).hours) < 1))) (!(((decide (((l.getD (Int.toNat b1) default).ready) < 0) || decide (count < ((l.getD (Int.toNat b1) default).due))) || decide (((l.getD (Int.toNat b1) default).due) ≤ ((l.getD (Int.toNat b1) default).ready))) || decide (((l.getD (Int.toNat b1) default).hours) < 1))), .when (!(((decide (((l.getD (Int.toNat b1) default).ready) < 0) || decide (count < ((l.getD (Int.toNat b1) default).due))) || decide (((l.getD (Int.toNat b1) default).due) ≤ ((l.getD (Int.toNat b1) default).ready))) || decide (((l.getD (Int.toNat b1) default).hours) < 1))) (.rng .i64 (((l.getD (Int.toNat b1) default).due) - ((l.getD (Int.toNat b1) default).ready))), .imp (!(((decide (((l.getD (Int.toNat b1) default).ready) < 0) || decide (count < ((l.getD (Int.toNat b1) default).due))) || decide (((l.getD (Int.toNat b1) default).due) ≤ ((l.getD (Int.toNat b1) default).ready))) || decide (((l.getD (Int.toNat b1) default).hours) < 1))) (!(((decide (((l.getD (Int.toNat b1) default).ready) < 0) || decide (count < ((l.getD (Int.toNat b1) default).due))) || decide (((l.getD (Int.toNat b1) default).due) ≤ ((l.getD (Int.toNat b1) default).ready))) || decide (((l.getD (Int.toNat b1) default).hours) < 1))), .imp (!(((decide (((l.getD (Int.toNat b1) default).ready) < 0) || decide (count < ((l.getD (Int.toNat b1) default).due))) || decide (((l.getD (Int.toNat b1) default).due) ≤ ((l.getD (Int.toNat b1) default).ready))) || decide (((l.getD (Int.toNat b1) default).hours) < 1))) (!(((decide (((l.getD (Int.toNat b1) default).ready) < 0) || decide (count < ((l.getD (Int.toNat b1) default).due))) || decide (((l.getD (Int.toNat b1) default).due) ≤ ((l.getD (Int.toNat b1) default).ready))) || decide (((l.getD (Int.toNat b1) default).hours) < 1))), .imp (!(((decide (((l.getD (Int.toNat b1) default).ready) < 0) || decide (count < ((l.getD (Int.toNat b1) default).due))) || decide (((l.getD (Int.toNat b1) default).due) ≤ ((l.getD (Int.toNat b1) default).ready))) || decide (((l.getD (Int.toNat b1) default).hours) < 1))) (!(((decide (((l.getD (Int.toNat b1) default).ready) < 0) || decide (count < ((l.getD (Int.toNat b1) default).due))) || decide (((l.getD (Int.toNat b1) default).due) ≤ ((l.getD (Int.toNat b1) default).ready))) || decide (((l.getD (Int.toNat b1) default).hours) < 1))), .imp (!((((decide (((l.getD (Int.toNat b1) default).ready) < 0) || decide (count < ((l.getD (Int.toNat b1) default).due))) || decide (((l.getD (Int.toNat b1) default).due) ≤ ((l.getD (Int.toNat b1) default).ready))) || decide (((l.getD (Int.toNat b1) default).hours) < 1)) || decide ((((l.getD (Int.toNat b1) default).due) - ((l.getD (Int.toNat b1) default).ready)) < ((l.getD (Int.toNat b1) default).hours)))) (!((((decide (((l.getD (Int.toNat b1) default).ready) < 0) || decide (count < ((l.getD (Int.toNat b1) default).due))) || decide (((l.getD (Int.toNat b1) default).due) ≤ ((l.getD (Int.toNat b1) default).ready))) || decide (((l.getD (Int.toNat b1) default).hours) < 1)) || decide ((((l.getD (Int.toNat b1) default).due) - ((l.getD (Int.toNat b1) default).ready)) < ((l.getD (Int.toNat b1) default).hours)))), .imp (!((((decide (((l.getD (Int.toNat b1) default).ready) < 0) || decide (count < ((l.getD (Int.toNat b1) default).due))) || decide (((l.getD (Int.toNat b1) default).due) ≤ ((l.getD (Int.toNat b1) default).ready))) || decide (((l.getD (Int.toNat b1) default).hours) < 1)) || decide ((((l.getD (Int.toNat b1) default).due) - ((l.getD (Int.toNat b1) default).ready)) < ((l.getD (Int.toNat b1) default).hours)))) (!((((decide (((l.getD (Int.toNat b1) default).ready) < 0) || decide (count < ((l.getD (Int.toNat b1) default).due))) || decide (((l.getD (Int.toNat b1) default).due) ≤ ((l.getD (Int.toNat b1) default).ready))) || decide (((l.getD (Int.toNat b1) default).hours) < 1)) || decide ((((l.getD (Int.toNat b1) default).due) - ((l.getD (Int.toNat b1) default).ready)) < ((l.getD (Int.toNat b1) default).hours)))), .imp (!((((decide (((l.getD (Int.toNat b1) default).ready) < 0) || decide (count < ((l.getD (Int.toNat b1) default).due))) || decide (((l.getD (Int.toNat b1) default).due) ≤ ((l.getD (Int.toNat b1) default).ready))) || decide (((l.getD (Int.toNat b1) default).hours) < 1)) || decide ((((l.getD (Int.toNat b1) default).due) - ((l.getD (Int.toNat b1) default).ready)) < ((l.getD (Int.toNat b1) default).hours)))) (!((((decide (((l.getD (Int.toNat b1) default).ready) < 0) || decide (count < ((l.getD (Int.toNat b1) default).due))) || decide (((l.getD (Int.toNat b1) default).due) ≤ ((l.getD (Int.toNat b1) default).ready))) || decide (((l.getD (Int.toNat b1) default).hours) < 1)) || decide ((((l.getD (Int.toNat b1) default).due) - ((l.getD (Int.toNat b1) default).ready)) < ((l.getD (Int.toNat b1) default).hours)))), .imp (!(((((decide (((l.getD (Int.toNat b1) default).ready) < 0) || decide (count < ((l.getD (Int.toNat b1) default).due))) || decide (((l.getD (Int.toNat b1) default).due) ≤ ((l.getD (Int.toNat b1) default).ready))) || decide (((l.getD (Int.toNat b1) default).hours) < 1)) || decide ((((l.getD (Int.toNat b1) default).due) - ((l.getD (Int.toNat b1) default).ready)) < ((l.getD (Int.toNat b1) default).hours))) || decide (((l.getD (Int.toNat b1) default).heat) < 0))) (!(((((decide (((l.getD (Int.toNat b1) default).ready) < 0) || decide (count < ((l.getD (Int.toNat b1) default).due))) || decide (((l.getD (Int.toNat b1) default).due) ≤ ((l.getD (Int.toNat b1) default).ready))) || decide (((l.getD (Int.toNat b1) default).hours) < 1)) || decide ((((l.getD (Int.toNat b1) default).due) - ((l.getD (Int.toNat b1) default).ready)) < ((l.getD (Int.toNat b1) default).hours))) || decide (((l.getD (Int.toNat b1) default).heat) < 0))), .imp (!(((((decide (((l.getD (Int.toNat b1) default).ready) < 0) || decide (count < ((l.getD (Int.toNat b1) default).due))) || decide (((l.getD (Int.toNat b1) default).due) ≤ ((l.getD (Int.toNat b1) default).ready))) || decide (((l.getD (Int.toNat b1) default).hours) < 1)) || decide ((((l.getD (Int.toNat b1) default).due) - ((l.getD (Int.toNat b1) default).ready)) < ((l.getD (Int.toNat b1) default).hours))) || decide (((l.getD (Int.toNat b1) default).heat) < 0))) (!(((((decide (((l.getD (Int.toNat b1) default).ready) < 0) || decide (count < ((l.getD (Int.toNat b1) default).due))) || decide (((l.getD (Int.toNat b1) default).due) ≤ ((l.getD (Int.toNat b1) default).ready))) || decide (((l.getD (Int.toNat b1) default).hours) < 1)) || decide ((((l.getD (Int.toNat b1) default).due) - ((l.getD (Int.toNat b1) default).ready)) < ((l.getD (Int.toNat b1) default).hours))) || decide (((l.getD (Int.toNat b1) default).heat) < 0))), .imp (!(((((decide (((l.getD (Int.toNat b1) default).ready) < 0) || decide (count < ((l.getD (Int.toNat b1) default).due))) || decide (((l.getD (Int.toNat b1) default).due) ≤ ((l.getD (Int.toNat b1) default).ready))) || decide (((l.getD (Int.toNat b1) default).hours) < 1)) || decide ((((l.getD (Int.toNat b1) default).due) - ((l.getD (Int.toNat b1) default).ready)) < ((l.getD (Int.toNat b1) default).hours))) || decide (((l.getD (Int.toNat b1) default).heat) < 0))) (!(((((decide (((l.getD (Int.toNat b1) default).ready) < 0) || decide (count < ((l.getD (Int.toNat b1) default).due))) || decide (((l.getD (Int.toNat b1) default).due) ≤ ((l.getD (Int.toNat b1) default).ready))) || decide (((l.getD (Int.toNat b1) default).hours) < 1)) || decide ((((l.getD (Int.toNat b1) default).due) - ((l.getD (Int.toNat b1) default).ready)) < ((l.getD (Int.toNat b1) default).hours))) || decide (((l.getD (Int.toNat b1) default).heat) < 0)))] S (by kernel_rfl) (by kernel_rfl) (by kernel_rfl) (by exact ⟨fun h => h, fun h => h, fun h => h, fun h => h, fun h => h, fun h => h, fun h => h, fun h => h, fun h => h, fun h => h, fun h => h, fun h => h, fun h => h, fun h => h, fun h => h, fun h => h, fun h => h, fun hW => rngI64 (g2 hW), fun h => h, fun h => h, fun h => h, fun h => h, fun h => h, fun h => h, fun h => h, fun h => h, fun h => h, trivial⟩) ?_
        clear S; intro E a w S
        refine sym_if_last (b := ((((((decide (((l.getD (Int.toNat b1) default).ready) < 0) || decide (count < ((l.getD (Int.toNat b1) default).due))) || decide (((l.getD (Int.toNat b1) default).due) ≤ ((l.getD (Int.toNat b1) default).ready))) || decide (((l.getD (Int.toNat b1) default).hours) < 1)) || decide ((((l.getD (Int.toNat b1) default).due) - ((l.getD (Int.toNat b1) default).ready)) < ((l.getD (Int.toNat b1) default).hours))) || decide (((l.getD (Int.toNat b1) default).heat) < 0)) || decide (1099511627776 < ((l.getD (Int.toNat b1) default).heat)))) S rfl (fun hb3 => ?_) (fun hb3 => ?_)
        · have h := bif_t hb3 h
          refine sym_seq lay_ok mixed [] [4] [] (⟨[(4, .v (.bool false))], ⟨[], (stream_validRuns_R l), []⟩⟩) [] S (by kernel_rfl) (by kernel_rfl) (by kernel_rfl) trivial ?_
          clear S; intro E a w S
          refine wp_ret ?_
          refine out_block_ret ?_
          refine out_then_ret ?_
          refine out_then_ret ?_
          refine out_block_ret ?_
          refine out_then_ret ?_
          refine out_then_ret ?_
          have hr := Option.some.inj h
          subst hr
          have hr := Option.some.inj hp1
          subst hr
          exact sym_ret lay_ok [.v (.bool false)] (by kernel_rfl) rfl S ⟨rfl, S.below rfl⟩
        · have h := bif_f hb3 h
          refine wp_skip ?_
          refine out_block_normal ?_
          refine out_then_normal ?_
          obtain ⟨g3, h⟩ := grd_some h
          refine sym_last lay_ok mixed [] [1, 10, 11, 12] [] (⟨[(1, iv (count)), (10, .sl 0), (11, iv (((l.length : Nat) : Int))), (12, iv ((b1 + 1)))], ⟨[], (stream_validRuns_R l), []⟩⟩) [.rng .i64 (b1 + 1)] S (by kernel_rfl) (by kernel_rfl) (by kernel_rfl) ⟨rngI64 g3, trivial⟩ ?_
          clear S; intro E a w S
          refine out_then_normal ?_
          exact ih (b1 + 1) _ _ _ h (St.cast (P := Go.Proofs.Try.prog) [] [] [1, 10, 11, 12] [] [0] _ [] (by kernel_rfl) trivial S)
      · have h := bif_f hb2 h
        refine wp_exit ?_
        refine out_then_exit ?_
        refine out_then_exit ?_
        refine out_block_here ?_
        refine out_then_normal ?_
        have hr := Option.some.inj h
        subst hr
        exact ⟨_, (), hp1, St.cast (P := Go.Proofs.Try.prog) [] [] [] [] [0] _ [] (by kernel_rfl) trivial S⟩
    clear e1 S
    rintro a w ⟨E, x1, h, S⟩
    rw [stream_validRuns_k1] at h
    refine out_then_normal ?_
    refine sym_seq lay_ok mixed [] [4] [] (⟨[(4, .v (.bool true))], ⟨[], (stream_validRuns_R l), []⟩⟩) [] S (by kernel_rfl) (by kernel_rfl) (by kernel_rfl) trivial ?_
    clear S; intro E a w S
    refine wp_ret ?_
    have h := Option.some.inj h
    subst h
    exact sym_ret lay_ok [.v (.bool true)] (by kernel_rfl) rfl S ⟨rfl, S.below rfl⟩
def betweenDown (x : MFraction) (from' : Int) (to' : Int) : Option Int :=
grd (InI64 (x.den - x.num) ∧ InI64 (from' * (x.den - x.num)) ∧ InI64 (to' * x.num) ∧ InI64 ((from' * (x.den - x.num)) + (to' * x.num))) <|
(stream_down ((from' * (x.den - x.num)) + (to' * x.num)) x.den).bind fun (r1 : Int) =>
some r1
set_option maxRecDepth 100000 in
set_option maxHeartbeats 4000000 in
theorem betweenDown_ok (x : MFraction) (from' : Int) (to' : Int) (W : World)  (res : Int) (h : betweenDown x from' to' = some res) :
    Calls Go.Proofs.Try.prog 88 #[.agg #[.int .i64 x.num, .int .i64 x.den], .int .i64 from', .int .i64 to', .func (.func 89) #[] #[]] W fun e w' => e = .returned (.int .i64 res) ∧ Below W.heap.size W w' := by
  refine sym_call (f := 88) (fn := Go.Proofs.Try.f88) (c := Go.Proofs.Try.f88.body.get rfl) Go.Proofs.Try.func88 rfl [.agg [iv (x.num), iv (x.den)], iv (from'), iv (to'), .v (.func (.func 89) #[] #[])] [] [] (envOf []) allR (fun _ _ => rfl) (by kernel_rfl) (envOf_one trivial) trivial (AllRR.all _ _) trivial fun E a w S => ?_
  rw [betweenDown] at h
  refine sym_seq lay_ok mixed [(0, { g := 0 })] [1, 2, 3, 4] [0] (⟨[(1, iv (from')), (2, iv (to')), (3, .v (.func (.func 89) #[] #[])), (4, .own 0 0)], ⟨[(0, .blk 137 [iv (x.num), iv (x.den)])], [], []⟩⟩) [] S (by kernel_rfl) (by kernel_rfl) (by kernel_rfl) trivial ?_
  clear S; intro E a w S
  obtain ⟨⟨g1, g2, g3, g4⟩, h⟩ := grd_some h
  obtain ⟨r1, e1, h⟩ := bind_some h
  refine sym_seq lay_ok mixed [(15, { res := iv (r1) })] [8] [] (⟨[(8, iv (r1))], ⟨[], [], []⟩⟩) [.rng .i64 (x.den - x.num), .rng .i64 (from' * (x.den - x.num)), .rng .i64 (to' * x.num), .rng .i64 ((from' * (x.den - x.num)) + (to' * x.num)), .call ⟨[], [], []⟩ 89 [iv (((from' * (x.den - x.num)) + (to' * x.num))), iv (x.den)] (iv (r1))] S (by kernel_rfl) (by kernel_rfl) (by kernel_rfl) ⟨rngI64 g1, rngI64 g2, rngI64 g3, rngI64 g4, ⟨enters_89, fun _ W _ hm => stream_down_ok ((from' * (x.den - x.num)) + (to' * x.num)) x.den W r1 e1⟩, trivial⟩ ?_
  clear S; intro E a w S
  refine wp_ret ?_
  have h := Option.some.inj h
  subst h
  exact sym_ret lay_ok [iv (r1)] (by kernel_rfl) rfl S ⟨rfl, S.below rfl⟩
def betweenUp (x : MFraction) (from' : Int) (to' : Int) : Option Int :=
grd (InI64 (x.den - x.num) ∧ InI64 (from' * (x.den - x.num)) ∧ InI64 (to' * x.num) ∧ InI64 ((from' * (x.den - x.num)) + (to' * x.num))) <|
(stream_up ((from' * (x.den - x.num)) + (to' * x.num)) x.den).bind fun (r1 : Int) =>
some r1
set_option maxRecDepth 100000 in
set_option maxHeartbeats 4000000 in
theorem betweenUp_ok (x : MFraction) (from' : Int) (to' : Int) (W : World)  (res : Int) (h : betweenUp x from' to' = some res) :
    Calls Go.Proofs.Try.prog 88 #[.agg #[.int .i64 x.num, .int .i64 x.den], .int .i64 from', .int .i64 to', .func (.func 90) #[] #[]] W fun e w' => e = .returned (.int .i64 res) ∧ Below W.heap.size W w' := by
  refine sym_call (f := 88) (fn := Go.Proofs.Try.f88) (c := Go.Proofs.Try.f88.body.get rfl) Go.Proofs.Try.func88 rfl [.agg [iv (x.num), iv (x.den)], iv (from'), iv (to'), .v (.func (.func 90) #[] #[])] [] [] (envOf []) allR (fun _ _ => rfl) (by kernel_rfl) (envOf_one trivial) trivial (AllRR.all _ _) trivial fun E a w S => ?_
  rw [betweenUp] at h
  refine sym_seq lay_ok mixed [(0, { g := 0 })] [1, 2, 3, 4] [0] (⟨[(1, iv (from')), (2, iv (to')), (3, .v (.func (.func 90) #[] #[])), (4, .own 0 0)], ⟨[(0, .blk 137 [iv (x.num), iv (x.den)])], [], []⟩⟩) [] S (by kernel_rfl) (by kernel_rfl) (by kernel_rfl) trivial ?_
  clear S; intro E a w S
  obtain ⟨⟨g1, g2, g3, g4⟩, h⟩ := grd_some h
  obtain ⟨r1, e1, h⟩ := bind_some h
  refine sym_seq lay_ok mixed [(15, { res := iv (r1) })] [8] [] (⟨[(8, iv (r1))], ⟨[], [], []⟩⟩) [.rng .i64 (x.den - x.num), .rng .i64 (from' * (x.den - x.num)), .rng .i64 (to' * x.num), .rng .i64 ((from' * (x.den - x.num)) + (to' * x.num)), .call ⟨[], [], []⟩ 90 [iv (((from' * (x.den - x.num)) + (to' * x.num))), iv (x.den)] (iv (r1))] S (by kernel_rfl) (by kernel_rfl) (by kernel_rfl) ⟨rngI64 g1, rngI64 g2, rngI64 g3, rngI64 g4, ⟨enters_90, fun _ W _ hm => stream_up_ok ((from' * (x.den - x.num)) + (to' * x.num)) x.den W r1 e1⟩, trivial⟩ ?_
  clear S; intro E a w S
  refine wp_ret ?_
  have h := Option.some.inj h
  subst h
  exact sym_ret lay_ok [iv (r1)] (by kernel_rfl) rfl S ⟨rfl, S.below rfl⟩
def stream_toward (warm : MSpan) (other : MSpan) (little : MFraction) (much : MFraction) : Option MSpan :=
(betweenDown little warm.lo other.lo).bind fun (r1 : Int) =>
(betweenDown much warm.lo other.lo).bind fun (r2 : Int) =>
(betweenUp little warm.hi other.hi).bind fun (r3 : Int) =>
(betweenUp much warm.hi other.hi).bind fun (r4 : Int) =>
some (MSpan.mk (min r1 r2) (max r3 r4))
set_option maxRecDepth 100000 in
set_option maxHeartbeats 4000000 in
theorem stream_toward_ok (warm : MSpan) (other : MSpan) (little : MFraction) (much : MFraction) (W : World)  (res : MSpan) (h : stream_toward warm other little much = some res) :
    Calls Go.Proofs.Try.prog 87 #[.agg #[.int .i64 warm.lo, .int .i64 warm.hi], .agg #[.int .i64 other.lo, .int .i64 other.hi], .agg #[.int .i64 little.num, .int .i64 little.den], .agg #[.int .i64 much.num, .int .i64 much.den]] W fun e w' => e = .returned (.agg #[.int .i64 res.lo, .int .i64 res.hi]) ∧ Below W.heap.size W w' := by
  refine sym_call (f := 87) (fn := Go.Proofs.Try.f87) (c := Go.Proofs.Try.f87.body.get rfl) Go.Proofs.Try.func87 rfl [.agg [iv (warm.lo), iv (warm.hi)], .agg [iv (other.lo), iv (other.hi)], .agg [iv (little.num), iv (little.den)], .agg [iv (much.num), iv (much.den)]] [] [] (envOf []) allR (fun _ _ => rfl) (by kernel_rfl) (envOf_one trivial) trivial (AllRR.all _ _) trivial fun E a w S => ?_
  rw [stream_toward] at h
  refine sym_seq lay_ok mixed [(0, { g := 0 }), (1, { g := 1 }), (2, { g := 2 }), (3, { g := 3 }), (4, { g := 4 })] [4, 5, 6, 7, 8] [0, 1, 2, 3, 4] (⟨[(4, .own 0 0), (5, .own 1 0), (6, .own 2 0), (7, .own 3 0), (8, .own 4 0)], ⟨[(0, .blk 23 [iv (warm.lo), iv (warm.hi)]), (1, .blk 23 [iv (other.lo), iv (other.hi)]), (2, .blk 137 [iv (little.num), iv (little.den)]), (3, .blk 137 [iv (much.num), iv (much.den)]), (4, .blk 23 [iv (0), iv (0)])], [], []⟩⟩) [] S (by kernel_rfl) (by kernel_rfl) (by kernel_rfl) trivial ?_
  clear S; intro E a w S
  obtain ⟨r1, e1, h⟩ := bind_some h
  obtain ⟨r2, e2, h⟩ := bind_some h
  obtain ⟨r3, e3, h⟩ := bind_some h
  obtain ⟨r4, e4, h⟩ := bind_some h
  refine sym_seq lay_ok mixed [(5, { res := iv (r1) }), (11, { res := iv (r2) }), (18, { res := iv (r3) }), (24, { res := iv (r4) })] [8] [4] (⟨[(8, .own 4 0)], ⟨[(4, .blk 23 [iv ((min r1 r2)), iv ((max r3 r4))])], [], []⟩⟩) [.call ⟨[], [], []⟩ 88 [.agg [iv (little.num), iv (little.den)], iv (warm.lo), iv (other.lo), .v (.func (.func 89) #[] #[])] (iv (r1)), .call ⟨[], [], []⟩ 88 [.agg [iv (much.num), iv (much.den)], iv (warm.lo), iv (other.lo), .v (.func (.func 89) #[] #[])] (iv (r2)), .call ⟨[], [], []⟩ 88 [.agg [iv (little.num), iv (little.den)], iv (warm.hi), iv (other.hi), .v (.func (.func 90) #[] #[])] (iv (r3)), .call ⟨[], [], []⟩ 88 [.agg [iv (much.num), iv (much.den)], iv (warm.hi), iv (other.hi), .v (.func (.func 90) #[] #[])] (iv (r4))] S (by kernel_rfl) (by kernel_rfl) (by kernel_rfl) ⟨⟨enters_88, fun _ W _ hm => betweenDown_ok little warm.lo other.lo W r1 e1⟩, ⟨enters_88, fun _ W _ hm => betweenDown_ok much warm.lo other.lo W r2 e2⟩, ⟨enters_88, fun _ W _ hm => betweenUp_ok little warm.hi other.hi W r3 e3⟩, ⟨enters_88, fun _ W _ hm => betweenUp_ok much warm.hi other.hi W r4 e4⟩, trivial⟩ ?_
  clear S; intro E a w S
  refine wp_ret ?_
  have h := Option.some.inj h
  subst h
  exact sym_ret lay_ok [.agg [iv ((min r1 r2)), iv ((max r3 r4))]] (by kernel_rfl) rfl S ⟨rfl, S.below rfl⟩
def stream_join_behind (j : MJoin) (ahead : MWater) : Option MWater :=
grd (InI64 (ahead.flow.lo + j.flow.lo) ∧ InI64 (ahead.flow.hi + j.flow.hi)) <|
grd (InI64 (ahead.flow.hi + j.flow.lo)) <|
grd (InI64 (ahead.flow.lo + j.flow.hi)) <|
(stream_toward (MSpan.mk ahead.warm.lo ahead.warm.hi) (MSpan.mk j.warm.lo j.warm.hi) (MFraction.mk j.flow.lo (ahead.flow.hi + j.flow.lo)) (MFraction.mk j.flow.hi (ahead.flow.lo + j.flow.hi))).bind fun (r1 : MSpan) =>
some (MWater.mk (MSpan.mk (ahead.flow.lo + j.flow.lo) (ahead.flow.hi + j.flow.hi)) r1)
set_option maxRecDepth 100000 in
set_option maxHeartbeats 4000000 in
theorem stream_join_behind_ok (j : MJoin) (ahead : MWater) (W : World)  (res : MWater) (h : stream_join_behind j ahead = some res) :
    Calls Go.Proofs.Try.prog 85 #[.agg #[.int .i64 j.flow.lo, .int .i64 j.flow.hi, .int .i64 j.warm.lo, .int .i64 j.warm.hi], .agg #[.int .i64 ahead.flow.lo, .int .i64 ahead.flow.hi, .int .i64 ahead.warm.lo, .int .i64 ahead.warm.hi]] W fun e w' => e = .returned (.agg #[.int .i64 res.flow.lo, .int .i64 res.flow.hi, .int .i64 res.warm.lo, .int .i64 res.warm.hi]) ∧ Below W.heap.size W w' := by
  refine sym_call (f := 85) (fn := Go.Proofs.Try.f85) (c := Go.Proofs.Try.f85.body.get rfl) Go.Proofs.Try.func85 rfl [.agg [iv (j.flow.lo), iv (j.flow.hi), iv (j.warm.lo), iv (j.warm.hi)], .agg [iv (ahead.flow.lo), iv (ahead.flow.hi), iv (ahead.warm.lo), iv (ahead.warm.hi)]] [] [] (envOf []) allR (fun _ _ => rfl) (by kernel_rfl) (envOf_one trivial) trivial (AllRR.all _ _) trivial fun E a w S => ?_
  rw [stream_join_behind] at h
  refine sym_seq lay_ok mixed [(0, { g := 0 }), (1, { g := 1 }), (2, { g := 2 })] [2, 3, 4] [0, 1, 2] (⟨[(2, .own 0 0), (3, .own 1 0), (4, .own 2 0)], ⟨[(0, .blk 114 [iv (j.flow.lo), iv (j.flow.hi), iv (j.warm.lo), iv (j.warm.hi)]), (1, .blk 25 [iv (ahead.flow.lo), iv (ahead.flow.hi), iv (ahead.warm.lo), iv (ahead.warm.hi)]), (2, .blk 25 [iv (0), iv (0), iv (0), iv (0)])], [], []⟩⟩) [] S (by kernel_rfl) (by kernel_rfl) (by kernel_rfl) trivial ?_
  clear S; intro E a w S
  obtain ⟨⟨g1, g2⟩, h⟩ := grd_some h
  refine sym_seq lay_ok mixed [(15, { g := 3 })] [2, 3, 4, 5] [0, 1, 2, 3] (⟨[(2, .own 0 0), (3, .own 1 0), (4, .own 2 0), (5, .own 3 0)], ⟨[(0, .blk 114 [iv (j.flow.lo), iv (j.flow.hi), iv (j.warm.lo), iv (j.warm.hi)]), (1, .blk 25 [iv (ahead.flow.lo), iv (ahead.flow.hi), iv (ahead.warm.lo), iv (ahead.warm.hi)]), (2, .blk 25 [iv (0), iv (0), iv (0), iv (0)]), (3, .blk 23 [iv ((ahead.flow.lo + j.flow.lo)), iv ((ahead.flow.hi + j.flow.hi))])], [], []⟩⟩) [.rng .i64 (ahead.flow.lo + j.flow.lo), .rng .i64 (ahead.flow.hi + j.flow.hi)] S (by kernel_rfl) (by kernel_rfl) (by kernel_rfl) ⟨rngI64 g1, rngI64 g2, trivial⟩ ?_
  clear S; intro E a w S
  obtain ⟨g3, h⟩ := grd_some h
  refine sym_seq lay_ok mixed [(11, { g := 4 })] [2, 3, 4, 5, 6] [0, 1, 2, 3, 4] (⟨[(2, .own 0 0), (3, .own 1 0), (4, .own 2 0), (5, .own 3 0), (6, .own 4 0)], ⟨[(0, .blk 114 [iv (j.flow.lo), iv (j.flow.hi), iv (j.warm.lo), iv (j.warm.hi)]), (1, .blk 25 [iv (ahead.flow.lo), iv (ahead.flow.hi), iv (ahead.warm.lo), iv (ahead.warm.hi)]), (2, .blk 25 [iv (0), iv (0), iv (0), iv (0)]), (3, .blk 23 [iv ((ahead.flow.lo + j.flow.lo)), iv ((ahead.flow.hi + j.flow.hi))]), (4, .blk 137 [iv (j.flow.lo), iv ((ahead.flow.hi + j.flow.lo))])], [], []⟩⟩) [.rng .i64 (ahead.flow.hi + j.flow.lo)] S (by kernel_rfl) (by kernel_rfl) (by kernel_rfl) ⟨rngI64 g3, trivial⟩ ?_
  clear S; intro E a w S
  obtain ⟨g4, h⟩ := grd_some h
  refine sym_seq lay_ok mixed [(11, { g := 5 })] [2, 3, 4, 5, 6, 7] [0, 1, 2, 3, 4, 5] (⟨[(2, .own 0 0), (3, .own 1 0), (4, .own 2 0), (5, .own 3 0), (6, .own 4 0), (7, .own 5 0)], ⟨[(0, .blk 114 [iv (j.flow.lo), iv (j.flow.hi), iv (j.warm.lo), iv (j.warm.hi)]), (1, .blk 25 [iv (ahead.flow.lo), iv (ahead.flow.hi), iv (ahead.warm.lo), iv (ahead.warm.hi)]), (2, .blk 25 [iv (0), iv (0), iv (0), iv (0)]), (3, .blk 23 [iv ((ahead.flow.lo + j.flow.lo)), iv ((ahead.flow.hi + j.flow.hi))]), (4, .blk 137 [iv (j.flow.lo), iv ((ahead.flow.hi + j.flow.lo))]), (5, .blk 137 [iv (j.flow.hi), iv ((ahead.flow.lo + j.flow.hi))])], [], []⟩⟩) [.rng .i64 (ahead.flow.lo + j.flow.hi)] S (by kernel_rfl) (by kernel_rfl) (by kernel_rfl) ⟨rngI64 g4, trivial⟩ ?_
  clear S; intro E a w S
  obtain ⟨r1, e1, h⟩ := bind_some h
  refine sym_seq lay_ok mixed [(7, { res := .agg [iv (r1.lo), iv (r1.hi)] })] [4] [2] (⟨[(4, .own 2 0)], ⟨[(2, .blk 25 [iv ((ahead.flow.lo + j.flow.lo)), iv ((ahead.flow.hi + j.flow.hi)), iv (r1.lo), iv (r1.hi)])], [], []⟩⟩) [.call ⟨[], [], []⟩ 87 [.agg [iv (ahead.warm.lo), iv (ahead.warm.hi)], .agg [iv (j.warm.lo), iv (j.warm.hi)], .agg [iv (j.flow.lo), iv ((ahead.flow.hi + j.flow.lo))], .agg [iv (j.flow.hi), iv ((ahead.flow.lo + j.flow.hi))]] (.agg [iv (r1.lo), iv (r1.hi)])] S (by kernel_rfl) (by kernel_rfl) (by kernel_rfl) ⟨⟨enters_87, fun _ W _ hm => stream_toward_ok (MSpan.mk ahead.warm.lo ahead.warm.hi) (MSpan.mk j.warm.lo j.warm.hi) (MFraction.mk j.flow.lo (ahead.flow.hi + j.flow.lo)) (MFraction.mk j.flow.hi (ahead.flow.lo + j.flow.hi)) W r1 e1⟩, trivial⟩ ?_
  clear S; intro E a w S
  refine wp_ret ?_
  have h := Option.some.inj h
  subst h
  exact sym_ret lay_ok [.agg [iv ((ahead.flow.lo + j.flow.lo)), iv ((ahead.flow.hi + j.flow.hi)), iv (r1.lo), iv (r1.hi)]] (by kernel_rfl) rfl S ⟨rfl, S.below rfl⟩
def stream_air_behind (a0 : MAir) (ahead : MWater) : Option MWater :=
(stream_toward (MSpan.mk ahead.warm.lo ahead.warm.hi) (MSpan.mk a0.warm.lo a0.warm.hi) (MFraction.mk a0.share.lo 10000) (MFraction.mk a0.share.hi 10000)).bind fun (r1 : MSpan) =>
some (MWater.mk (MSpan.mk ahead.flow.lo ahead.flow.hi) r1)
set_option maxRecDepth 100000 in
set_option maxHeartbeats 4000000 in
theorem stream_air_behind_ok (a0 : MAir) (ahead : MWater) (W : World)  (res : MWater) (h : stream_air_behind a0 ahead = some res) :
    Calls Go.Proofs.Try.prog 95 #[.agg #[.int .i64 a0.warm.lo, .int .i64 a0.warm.hi, .int .i64 a0.share.lo, .int .i64 a0.share.hi], .agg #[.int .i64 ahead.flow.lo, .int .i64 ahead.flow.hi, .int .i64 ahead.warm.lo, .int .i64 ahead.warm.hi]] W fun e w' => e = .returned (.agg #[.int .i64 res.flow.lo, .int .i64 res.flow.hi, .int .i64 res.warm.lo, .int .i64 res.warm.hi]) ∧ Below W.heap.size W w' := by
  refine sym_call (f := 95) (fn := Go.Proofs.Try.f95) (c := Go.Proofs.Try.f95.body.get rfl) Go.Proofs.Try.func95 rfl [.agg [iv (a0.warm.lo), iv (a0.warm.hi), iv (a0.share.lo), iv (a0.share.hi)], .agg [iv (ahead.flow.lo), iv (ahead.flow.hi), iv (ahead.warm.lo), iv (ahead.warm.hi)]] [] [] (envOf []) allR (fun _ _ => rfl) (by kernel_rfl) (envOf_one trivial) trivial (AllRR.all _ _) trivial fun E a w S => ?_
  rw [stream_air_behind] at h
  refine sym_seq lay_ok mixed [(0, { g := 0 }), (1, { g := 1 }), (2, { g := 2 })] [2, 3, 4] [0, 1, 2] (⟨[(2, .own 0 0), (3, .own 1 0), (4, .own 2 0)], ⟨[(0, .blk 120 [iv (a0.warm.lo), iv (a0.warm.hi), iv (a0.share.lo), iv (a0.share.hi)]), (1, .blk 25 [iv (ahead.flow.lo), iv (ahead.flow.hi), iv (ahead.warm.lo), iv (ahead.warm.hi)]), (2, .blk 25 [iv (0), iv (0), iv (0), iv (0)])], [], []⟩⟩) [] S (by kernel_rfl) (by kernel_rfl) (by kernel_rfl) trivial ?_
  clear S; intro E a w S
  refine sym_seq lay_ok mixed [(8, { g := 3 }), (9, { g := 4 })] [2, 3, 4, 5, 6] [0, 1, 2, 3, 4] (⟨[(2, .own 0 0), (3, .own 1 0), (4, .own 2 0), (5, .own 3 0), (6, .own 4 0)], ⟨[(0, .blk 120 [iv (a0.warm.lo), iv (a0.warm.hi), iv (a0.share.lo), iv (a0.share.hi)]), (1, .blk 25 [iv (ahead.flow.lo), iv (ahead.flow.hi), iv (ahead.warm.lo), iv (ahead.warm.hi)]), (2, .blk 25 [iv (0), iv (0), iv (0), iv (0)]), (3, .blk 137 [iv (a0.share.lo), iv (10000)]), (4, .blk 137 [iv (a0.share.hi), iv (10000)])], [], []⟩⟩) [] S (by kernel_rfl) (by kernel_rfl) (by kernel_rfl) trivial ?_
  clear S; intro E a w S
  obtain ⟨r1, e1, h⟩ := bind_some h
  refine sym_seq lay_ok mixed [(6, { res := .agg [iv (r1.lo), iv (r1.hi)] })] [3, 4] [1, 2] (⟨[(3, .own 1 0), (4, .own 2 0)], ⟨[(1, .blk 25 [iv (ahead.flow.lo), iv (ahead.flow.hi), iv (r1.lo), iv (r1.hi)]), (2, .blk 25 [iv (0), iv (0), iv (0), iv (0)])], [], []⟩⟩) [.call ⟨[], [], []⟩ 87 [.agg [iv (ahead.warm.lo), iv (ahead.warm.hi)], .agg [iv (a0.warm.lo), iv (a0.warm.hi)], .agg [iv (a0.share.lo), iv (10000)], .agg [iv (a0.share.hi), iv (10000)]] (.agg [iv (r1.lo), iv (r1.hi)])] S (by kernel_rfl) (by kernel_rfl) (by kernel_rfl) ⟨⟨enters_87, fun _ W _ hm => stream_toward_ok (MSpan.mk ahead.warm.lo ahead.warm.hi) (MSpan.mk a0.warm.lo a0.warm.hi) (MFraction.mk a0.share.lo 10000) (MFraction.mk a0.share.hi 10000) W r1 e1⟩, trivial⟩ ?_
  clear S; intro E a w S
  refine sym_seq lay_ok mixed [] [4] [2] (⟨[(4, .own 2 0)], ⟨[(2, .blk 25 [iv (ahead.flow.lo), iv (ahead.flow.hi), iv (r1.lo), iv (r1.hi)])], [], []⟩⟩) [] S (by kernel_rfl) (by kernel_rfl) (by kernel_rfl) trivial ?_
  clear S; intro E a w S
  refine wp_ret ?_
  have h := Option.some.inj h
  subst h
  exact sym_ret lay_ok [.agg [iv (ahead.flow.lo), iv (ahead.flow.hi), iv (r1.lo), iv (r1.hi)]] (by kernel_rfl) rfl S ⟨rfl, S.below rfl⟩
set_option maxRecDepth 100000 in
set_option maxHeartbeats 4000000 in
theorem pointOf0_ok (p : MPoint) (W : World) : Calls Go.Proofs.Try.prog 65 #[.agg #[.int .i64 0, .int .i64 p.flow.lo, .int .i64 p.flow.hi, .int .i64 p.warm.lo, .int .i64 p.warm.hi, .int .i64 p.heat.lo, .int .i64 p.heat.hi, .int .i64 p.share.lo, .int .i64 p.share.hi]] W fun e w' => e = .returned (.tuple #[.iface 114 (.agg #[.int .i64 p.flow.lo, .int .i64 p.flow.hi, .int .i64 p.warm.lo, .int .i64 p.warm.hi]), .bool true]) ∧ Below W.heap.size W w' := by
  have h : (some () : Option Unit) = some () := rfl
  refine sym_call (f := 65) (fn := Go.Proofs.Try.f65) (c := Go.Proofs.Try.f65.body.get rfl) Go.Proofs.Try.func65 rfl [.agg [iv (0), iv (p.flow.lo), iv (p.flow.hi), iv (p.warm.lo), iv (p.warm.hi), iv (p.heat.lo), iv (p.heat.hi), iv (p.share.lo), iv (p.share.hi)]] [] [] (envOf []) allR (fun _ _ => rfl) (by kernel_rfl) (envOf_one trivial) trivial trivial trivial fun E a w S => ?_
  refine sym_seq lay_ok mixed [(0, { g := 0 })] [1] [0] (⟨[(1, .own 0 0)], ⟨[(0, .blk 47 [iv (0), iv (p.flow.lo), iv (p.flow.hi), iv (p.warm.lo), iv (p.warm.hi), iv (p.heat.lo), iv (p.heat.hi), iv (p.share.lo), iv (p.share.hi)])], [], []⟩⟩) [] S (by kernel_rfl) (by kernel_rfl) (by kernel_rfl) trivial ?_
  clear S; intro E a w S
  refine wp_seq ?_
  refine sym_seq lay_ok mixed [] [1, 5] [0] (⟨[(1, .own 0 0), (5, iv (0))], ⟨[(0, .blk 47 [iv (0), iv (p.flow.lo), iv (p.flow.hi), iv (p.warm.lo), iv (p.warm.hi), iv (p.heat.lo), iv (p.heat.hi), iv (p.share.lo), iv (p.share.hi)])], [], []⟩⟩) [] S (by kernel_rfl) (by kernel_rfl) (by kernel_rfl) trivial ?_
  clear S; intro E a w S
  refine wp_block ?_
  refine sym_seq lay_ok mixed [] [1, 5, 6] [0] (⟨[(1, .own 0 0), (5, iv (0)), (6, .v (.bool true))], ⟨[(0, .blk 47 [iv (0), iv (p.flow.lo), iv (p.flow.hi), iv (p.warm.lo), iv (p.warm.hi), iv (p.heat.lo), iv (p.heat.hi), iv (p.share.lo), iv (p.share.hi)])], [], []⟩⟩) [] S (by kernel_rfl) (by kernel_rfl) (by kernel_rfl) trivial ?_
  clear S; intro E a w S
  refine sym_if_last (b := true) S rfl (fun _ => ?_) (fun hb => absurd hb (by decide))
  refine sym_seq lay_ok mixed [(5, { px := some (.v (.iface 114 (.agg #[.int .i64 p.flow.lo, .int .i64 p.flow.hi, .int .i64 p.warm.lo, .int .i64 p.warm.hi]))) })] [2, 3] [] (⟨[(2, .v (.iface 114 (.agg #[.int .i64 p.flow.lo, .int .i64 p.flow.hi, .int .i64 p.warm.lo, .int .i64 p.warm.hi]))), (3, .v (.bool true))], ⟨[], [], []⟩⟩) [.pure ⟨[], [], []⟩ (.makeInterface 114 (.tmp 12)) [.agg [iv (p.flow.lo), iv (p.flow.hi), iv (p.warm.lo), iv (p.warm.hi)]] (.v (.iface 114 (.agg #[.int .i64 p.flow.lo, .int .i64 p.flow.hi, .int .i64 p.warm.lo, .int .i64 p.warm.hi])))] S (by kernel_rfl) (by kernel_rfl) (by kernel_rfl) ⟨pure_iface (by kernel_rfl) (fun _ => rfl), trivial⟩ ?_
  clear S; intro E a w S
  refine wp_ret ?_
  refine out_block_ret ?_
  refine out_then_ret ?_
  have h := Option.some.inj h
  clear h
  exact sym_ret lay_ok [.v (.iface 114 (.agg #[.int .i64 p.flow.lo, .int .i64 p.flow.hi, .int .i64 p.warm.lo, .int .i64 p.warm.hi])), .v (.bool true)] (by kernel_rfl) rfl S ⟨rfl, S.below rfl⟩
set_option maxRecDepth 100000 in
set_option maxHeartbeats 4000000 in
theorem pointOf1_ok (p : MPoint) (W : World) : Calls Go.Proofs.Try.prog 65 #[.agg #[.int .i64 1, .int .i64 p.flow.lo, .int .i64 p.flow.hi, .int .i64 p.warm.lo, .int .i64 p.warm.hi, .int .i64 p.heat.lo, .int .i64 p.heat.hi, .int .i64 p.share.lo, .int .i64 p.share.hi]] W fun e w' => e = .returned (.tuple #[.iface 116 (.agg #[.int .i64 p.flow.lo, .int .i64 p.flow.hi]), .bool true]) ∧ Below W.heap.size W w' := by
  have h : (some () : Option Unit) = some () := rfl
  refine sym_call (f := 65) (fn := Go.Proofs.Try.f65) (c := Go.Proofs.Try.f65.body.get rfl) Go.Proofs.Try.func65 rfl [.agg [iv (1), iv (p.flow.lo), iv (p.flow.hi), iv (p.warm.lo), iv (p.warm.hi), iv (p.heat.lo), iv (p.heat.hi), iv (p.share.lo), iv (p.share.hi)]] [] [] (envOf []) allR (fun _ _ => rfl) (by kernel_rfl) (envOf_one trivial) trivial trivial trivial fun E a w S => ?_
  refine sym_seq lay_ok mixed [(0, { g := 0 })] [1] [0] (⟨[(1, .own 0 0)], ⟨[(0, .blk 47 [iv (1), iv (p.flow.lo), iv (p.flow.hi), iv (p.warm.lo), iv (p.warm.hi), iv (p.heat.lo), iv (p.heat.hi), iv (p.share.lo), iv (p.share.hi)])], [], []⟩⟩) [] S (by kernel_rfl) (by kernel_rfl) (by kernel_rfl) trivial ?_
  clear S; intro E a w S
  refine wp_seq ?_
  refine sym_seq lay_ok mixed [] [1, 5] [0] (⟨[(1, .own 0 0), (5, iv (1))], ⟨[(0, .blk 47 [iv (1), iv (p.flow.lo), iv (p.flow.hi), iv (p.warm.lo), iv (p.warm.hi), iv (p.heat.lo), iv (p.heat.hi), iv (p.share.lo), iv (p.share.hi)])], [], []⟩⟩) [] S (by kernel_rfl) (by kernel_rfl) (by kernel_rfl) trivial ?_
  clear S; intro E a w S
  refine wp_block ?_
  refine sym_seq lay_ok mixed [] [1, 5, 6] [0] (⟨[(1, .own 0 0), (5, iv (1)), (6, .v (.bool false))], ⟨[(0, .blk 47 [iv (1), iv (p.flow.lo), iv (p.flow.hi), iv (p.warm.lo), iv (p.warm.hi), iv (p.heat.lo), iv (p.heat.hi), iv (p.share.lo), iv (p.share.hi)])], [], []⟩⟩) [] S (by kernel_rfl) (by kernel_rfl) (by kernel_rfl) trivial ?_
  clear S; intro E a w S
  refine sym_if_last (b := false) S rfl (fun hb => absurd hb (by decide)) (fun _ => ?_)
  refine sym_seq lay_ok mixed [] [1, 5, 14] [0] (⟨[(1, .own 0 0), (5, iv (1)), (14, .v (.bool true))], ⟨[(0, .blk 47 [iv (1), iv (p.flow.lo), iv (p.flow.hi), iv (p.warm.lo), iv (p.warm.hi), iv (p.heat.lo), iv (p.heat.hi), iv (p.share.lo), iv (p.share.hi)])], [], []⟩⟩) [] S (by kernel_rfl) (by kernel_rfl) (by kernel_rfl) trivial ?_
  clear S; intro E a w S
  refine sym_if_last (b := true) S rfl (fun _ => ?_) (fun hb => absurd hb (by decide))
  refine sym_seq lay_ok mixed [(3, { px := some (.v (.iface 116 (.agg #[.int .i64 p.flow.lo, .int .i64 p.flow.hi]))) })] [2, 3] [] (⟨[(2, .v (.iface 116 (.agg #[.int .i64 p.flow.lo, .int .i64 p.flow.hi]))), (3, .v (.bool true))], ⟨[], [], []⟩⟩) [.pure ⟨[], [], []⟩ (.makeInterface 116 (.tmp 18)) [.agg [iv (p.flow.lo), iv (p.flow.hi)]] (.v (.iface 116 (.agg #[.int .i64 p.flow.lo, .int .i64 p.flow.hi])))] S (by kernel_rfl) (by kernel_rfl) (by kernel_rfl) ⟨pure_iface (by kernel_rfl) (fun _ => rfl), trivial⟩ ?_
  clear S; intro E a w S
  refine wp_ret ?_
  refine out_block_ret ?_
  refine out_then_ret ?_
  have h := Option.some.inj h
  clear h
  exact sym_ret lay_ok [.v (.iface 116 (.agg #[.int .i64 p.flow.lo, .int .i64 p.flow.hi])), .v (.bool true)] (by kernel_rfl) rfl S ⟨rfl, S.below rfl⟩
set_option maxRecDepth 100000 in
set_option maxHeartbeats 4000000 in
theorem pointOf2_ok (p : MPoint) (W : World) : Calls Go.Proofs.Try.prog 65 #[.agg #[.int .i64 2, .int .i64 p.flow.lo, .int .i64 p.flow.hi, .int .i64 p.warm.lo, .int .i64 p.warm.hi, .int .i64 p.heat.lo, .int .i64 p.heat.hi, .int .i64 p.share.lo, .int .i64 p.share.hi]] W fun e w' => e = .returned (.tuple #[.iface 118 (.agg #[.int .i64 p.heat.lo, .int .i64 p.heat.hi]), .bool true]) ∧ Below W.heap.size W w' := by
  have h : (some () : Option Unit) = some () := rfl
  refine sym_call (f := 65) (fn := Go.Proofs.Try.f65) (c := Go.Proofs.Try.f65.body.get rfl) Go.Proofs.Try.func65 rfl [.agg [iv (2), iv (p.flow.lo), iv (p.flow.hi), iv (p.warm.lo), iv (p.warm.hi), iv (p.heat.lo), iv (p.heat.hi), iv (p.share.lo), iv (p.share.hi)]] [] [] (envOf []) allR (fun _ _ => rfl) (by kernel_rfl) (envOf_one trivial) trivial trivial trivial fun E a w S => ?_
  refine sym_seq lay_ok mixed [(0, { g := 0 })] [1] [0] (⟨[(1, .own 0 0)], ⟨[(0, .blk 47 [iv (2), iv (p.flow.lo), iv (p.flow.hi), iv (p.warm.lo), iv (p.warm.hi), iv (p.heat.lo), iv (p.heat.hi), iv (p.share.lo), iv (p.share.hi)])], [], []⟩⟩) [] S (by kernel_rfl) (by kernel_rfl) (by kernel_rfl) trivial ?_
  clear S; intro E a w S
  refine wp_seq ?_
  refine sym_seq lay_ok mixed [] [1, 5] [0] (⟨[(1, .own 0 0), (5, iv (2))], ⟨[(0, .blk 47 [iv (2), iv (p.flow.lo), iv (p.flow.hi), iv (p.warm.lo), iv (p.warm.hi), iv (p.heat.lo), iv (p.heat.hi), iv (p.share.lo), iv (p.share.hi)])], [], []⟩⟩) [] S (by kernel_rfl) (by kernel_rfl) (by kernel_rfl) trivial ?_
  clear S; intro E a w S
  refine wp_block ?_
  refine sym_seq lay_ok mixed [] [1, 5, 6] [0] (⟨[(1, .own 0 0), (5, iv (2)), (6, .v (.bool false))], ⟨[(0, .blk 47 [iv (2), iv (p.flow.lo), iv (p.flow.hi), iv (p.warm.lo), iv (p.warm.hi), iv (p.heat.lo), iv (p.heat.hi), iv (p.share.lo), iv (p.share.hi)])], [], []⟩⟩) [] S (by kernel_rfl) (by kernel_rfl) (by kernel_rfl) trivial ?_
  clear S; intro E a w S
  refine sym_if_last (b := false) S rfl (fun hb => absurd hb (by decide)) (fun _ => ?_)
  refine sym_seq lay_ok mixed [] [1, 5, 14] [0] (⟨[(1, .own 0 0), (5, iv (2)), (14, .v (.bool false))], ⟨[(0, .blk 47 [iv (2), iv (p.flow.lo), iv (p.flow.hi), iv (p.warm.lo), iv (p.warm.hi), iv (p.heat.lo), iv (p.heat.hi), iv (p.share.lo), iv (p.share.hi)])], [], []⟩⟩) [] S (by kernel_rfl) (by kernel_rfl) (by kernel_rfl) trivial ?_
  clear S; intro E a w S
  refine sym_if_last (b := false) S rfl (fun hb => absurd hb (by decide)) (fun _ => ?_)
  refine sym_seq lay_ok mixed [] [1, 5, 20] [0] (⟨[(1, .own 0 0), (5, iv (2)), (20, .v (.bool true))], ⟨[(0, .blk 47 [iv (2), iv (p.flow.lo), iv (p.flow.hi), iv (p.warm.lo), iv (p.warm.hi), iv (p.heat.lo), iv (p.heat.hi), iv (p.share.lo), iv (p.share.hi)])], [], []⟩⟩) [] S (by kernel_rfl) (by kernel_rfl) (by kernel_rfl) trivial ?_
  clear S; intro E a w S
  refine sym_if_last (b := true) S rfl (fun _ => ?_) (fun hb => absurd hb (by decide))
  refine sym_seq lay_ok mixed [(3, { px := some (.v (.iface 118 (.agg #[.int .i64 p.heat.lo, .int .i64 p.heat.hi]))) })] [2, 3] [] (⟨[(2, .v (.iface 118 (.agg #[.int .i64 p.heat.lo, .int .i64 p.heat.hi]))), (3, .v (.bool true))], ⟨[], [], []⟩⟩) [.pure ⟨[], [], []⟩ (.makeInterface 118 (.tmp 24)) [.agg [iv (p.heat.lo), iv (p.heat.hi)]] (.v (.iface 118 (.agg #[.int .i64 p.heat.lo, .int .i64 p.heat.hi])))] S (by kernel_rfl) (by kernel_rfl) (by kernel_rfl) ⟨pure_iface (by kernel_rfl) (fun _ => rfl), trivial⟩ ?_
  clear S; intro E a w S
  refine wp_ret ?_
  refine out_block_ret ?_
  refine out_then_ret ?_
  have h := Option.some.inj h
  clear h
  exact sym_ret lay_ok [.v (.iface 118 (.agg #[.int .i64 p.heat.lo, .int .i64 p.heat.hi])), .v (.bool true)] (by kernel_rfl) rfl S ⟨rfl, S.below rfl⟩
set_option maxRecDepth 100000 in
set_option maxHeartbeats 4000000 in
theorem pointOf3_ok (p : MPoint) (W : World) : Calls Go.Proofs.Try.prog 65 #[.agg #[.int .i64 3, .int .i64 p.flow.lo, .int .i64 p.flow.hi, .int .i64 p.warm.lo, .int .i64 p.warm.hi, .int .i64 p.heat.lo, .int .i64 p.heat.hi, .int .i64 p.share.lo, .int .i64 p.share.hi]] W fun e w' => e = .returned (.tuple #[.iface 120 (.agg #[.int .i64 p.warm.lo, .int .i64 p.warm.hi, .int .i64 p.share.lo, .int .i64 p.share.hi]), .bool true]) ∧ Below W.heap.size W w' := by
  have h : (some () : Option Unit) = some () := rfl
  refine sym_call (f := 65) (fn := Go.Proofs.Try.f65) (c := Go.Proofs.Try.f65.body.get rfl) Go.Proofs.Try.func65 rfl [.agg [iv (3), iv (p.flow.lo), iv (p.flow.hi), iv (p.warm.lo), iv (p.warm.hi), iv (p.heat.lo), iv (p.heat.hi), iv (p.share.lo), iv (p.share.hi)]] [] [] (envOf []) allR (fun _ _ => rfl) (by kernel_rfl) (envOf_one trivial) trivial trivial trivial fun E a w S => ?_
  refine sym_seq lay_ok mixed [(0, { g := 0 })] [1] [0] (⟨[(1, .own 0 0)], ⟨[(0, .blk 47 [iv (3), iv (p.flow.lo), iv (p.flow.hi), iv (p.warm.lo), iv (p.warm.hi), iv (p.heat.lo), iv (p.heat.hi), iv (p.share.lo), iv (p.share.hi)])], [], []⟩⟩) [] S (by kernel_rfl) (by kernel_rfl) (by kernel_rfl) trivial ?_
  clear S; intro E a w S
  refine wp_seq ?_
  refine sym_seq lay_ok mixed [] [1, 5] [0] (⟨[(1, .own 0 0), (5, iv (3))], ⟨[(0, .blk 47 [iv (3), iv (p.flow.lo), iv (p.flow.hi), iv (p.warm.lo), iv (p.warm.hi), iv (p.heat.lo), iv (p.heat.hi), iv (p.share.lo), iv (p.share.hi)])], [], []⟩⟩) [] S (by kernel_rfl) (by kernel_rfl) (by kernel_rfl) trivial ?_
  clear S; intro E a w S
  refine wp_block ?_
  refine sym_seq lay_ok mixed [] [1, 5, 6] [0] (⟨[(1, .own 0 0), (5, iv (3)), (6, .v (.bool false))], ⟨[(0, .blk 47 [iv (3), iv (p.flow.lo), iv (p.flow.hi), iv (p.warm.lo), iv (p.warm.hi), iv (p.heat.lo), iv (p.heat.hi), iv (p.share.lo), iv (p.share.hi)])], [], []⟩⟩) [] S (by kernel_rfl) (by kernel_rfl) (by kernel_rfl) trivial ?_
  clear S; intro E a w S
  refine sym_if_last (b := false) S rfl (fun hb => absurd hb (by decide)) (fun _ => ?_)
  refine sym_seq lay_ok mixed [] [1, 5, 14] [0] (⟨[(1, .own 0 0), (5, iv (3)), (14, .v (.bool false))], ⟨[(0, .blk 47 [iv (3), iv (p.flow.lo), iv (p.flow.hi), iv (p.warm.lo), iv (p.warm.hi), iv (p.heat.lo), iv (p.heat.hi), iv (p.share.lo), iv (p.share.hi)])], [], []⟩⟩) [] S (by kernel_rfl) (by kernel_rfl) (by kernel_rfl) trivial ?_
  clear S; intro E a w S
  refine sym_if_last (b := false) S rfl (fun hb => absurd hb (by decide)) (fun _ => ?_)
  refine sym_seq lay_ok mixed [] [1, 5, 20] [0] (⟨[(1, .own 0 0), (5, iv (3)), (20, .v (.bool false))], ⟨[(0, .blk 47 [iv (3), iv (p.flow.lo), iv (p.flow.hi), iv (p.warm.lo), iv (p.warm.hi), iv (p.heat.lo), iv (p.heat.hi), iv (p.share.lo), iv (p.share.hi)])], [], []⟩⟩) [] S (by kernel_rfl) (by kernel_rfl) (by kernel_rfl) trivial ?_
  clear S; intro E a w S
  refine sym_if_last (b := false) S rfl (fun hb => absurd hb (by decide)) (fun _ => ?_)
  refine sym_seq lay_ok mixed [] [1, 26] [0] (⟨[(1, .own 0 0), (26, .v (.bool true))], ⟨[(0, .blk 47 [iv (3), iv (p.flow.lo), iv (p.flow.hi), iv (p.warm.lo), iv (p.warm.hi), iv (p.heat.lo), iv (p.heat.hi), iv (p.share.lo), iv (p.share.hi)])], [], []⟩⟩) [] S (by kernel_rfl) (by kernel_rfl) (by kernel_rfl) trivial ?_
  clear S; intro E a w S
  refine sym_if_last (b := true) S rfl (fun _ => ?_) (fun hb => absurd hb (by decide))
  refine sym_seq lay_ok mixed [(5, { px := some (.v (.iface 120 (.agg #[.int .i64 p.warm.lo, .int .i64 p.warm.hi, .int .i64 p.share.lo, .int .i64 p.share.hi]))) })] [2, 3] [] (⟨[(2, .v (.iface 120 (.agg #[.int .i64 p.warm.lo, .int .i64 p.warm.hi, .int .i64 p.share.lo, .int .i64 p.share.hi]))), (3, .v (.bool true))], ⟨[], [], []⟩⟩) [.pure ⟨[], [], []⟩ (.makeInterface 120 (.tmp 32)) [.agg [iv (p.warm.lo), iv (p.warm.hi), iv (p.share.lo), iv (p.share.hi)]] (.v (.iface 120 (.agg #[.int .i64 p.warm.lo, .int .i64 p.warm.hi, .int .i64 p.share.lo, .int .i64 p.share.hi])))] S (by kernel_rfl) (by kernel_rfl) (by kernel_rfl) ⟨pure_iface (by kernel_rfl) (fun _ => rfl), trivial⟩ ?_
  clear S; intro E a w S
  refine wp_ret ?_
  refine out_block_ret ?_
  refine out_then_ret ?_
  have h := Option.some.inj h
  clear h
  exact sym_ret lay_ok [.v (.iface 120 (.agg #[.int .i64 p.warm.lo, .int .i64 p.warm.hi, .int .i64 p.share.lo, .int .i64 p.share.hi])), .v (.bool true)] (by kernel_rfl) rfl S ⟨rfl, S.below rfl⟩
def pointOfX (p : MPoint) : Option Unit :=
(bif (p.kind == 0) then
(none)
else
((bif (p.kind == 1) then
(none)
else
((bif (p.kind == 2) then
(none)
else
((bif (p.kind == 3) then
(none)
else
(some ()))))))))
set_option maxRecDepth 100000 in
set_option maxHeartbeats 4000000 in
theorem pointOfX_ok (p : MPoint) (W : World) (res : Unit) (h : pointOfX p = some res) : Calls Go.Proofs.Try.prog 65 #[.agg #[.int .i64 p.kind, .int .i64 p.flow.lo, .int .i64 p.flow.hi, .int .i64 p.warm.lo, .int .i64 p.warm.hi, .int .i64 p.heat.lo, .int .i64 p.heat.hi, .int .i64 p.share.lo, .int .i64 p.share.hi]] W fun e w' => e = .returned (.tuple #[.nilIface, .bool false]) ∧ Below W.heap.size W w' := by
  refine sym_call (f := 65) (fn := Go.Proofs.Try.f65) (c := Go.Proofs.Try.f65.body.get rfl) Go.Proofs.Try.func65 rfl [.agg [iv (p.kind), iv (p.flow.lo), iv (p.flow.hi), iv (p.warm.lo), iv (p.warm.hi), iv (p.heat.lo), iv (p.heat.hi), iv (p.share.lo), iv (p.share.hi)]] [] [] (envOf []) allR (fun _ _ => rfl) (by kernel_rfl) (envOf_one trivial) trivial trivial trivial fun E a w S => ?_
  rw [pointOfX] at h
  refine sym_seq lay_ok mixed [(0, { g := 0 })] [1] [0] (⟨[(1, .own 0 0)], ⟨[(0, .blk 47 [iv (p.kind), iv (p.flow.lo), iv (p.flow.hi), iv (p.warm.lo), iv (p.warm.hi), iv (p.heat.lo), iv (p.heat.hi), iv (p.share.lo), iv (p.share.hi)])], [], []⟩⟩) [] S (by kernel_rfl) (by kernel_rfl) (by kernel_rfl) trivial ?_
  clear S; intro E a w S
  refine wp_seq ?_
  refine sym_seq lay_ok mixed [] [1, 5] [0] (⟨[(1, .own 0 0), (5, iv (p.kind))], ⟨[(0, .blk 47 [iv (p.kind), iv (p.flow.lo), iv (p.flow.hi), iv (p.warm.lo), iv (p.warm.hi), iv (p.heat.lo), iv (p.heat.hi), iv (p.share.lo), iv (p.share.hi)])], [], []⟩⟩) [] S (by kernel_rfl) (by kernel_rfl) (by kernel_rfl) trivial ?_
  clear S; intro E a w S
  refine wp_block ?_
  refine sym_seq lay_ok mixed [] [1, 5, 6] [0] (⟨[(1, .own 0 0), (5, iv (p.kind)), (6, .v (.bool (p.kind == 0)))], ⟨[(0, .blk 47 [iv (p.kind), iv (p.flow.lo), iv (p.flow.hi), iv (p.warm.lo), iv (p.warm.hi), iv (p.heat.lo), iv (p.heat.hi), iv (p.share.lo), iv (p.share.hi)])], [], []⟩⟩) [] S (by kernel_rfl) (by kernel_rfl) (by kernel_rfl) trivial ?_
  clear S; intro E a w S
  refine sym_if_last (b := (p.kind == 0)) S rfl (fun hb1 => ?_) (fun hb1 => ?_)
  · have h := bif_t hb1 h
    cases h
  · have h := bif_f hb1 h
    refine sym_seq lay_ok mixed [] [1, 5, 14] [0] (⟨[(1, .own 0 0), (5, iv (p.kind)), (14, .v (.bool (p.kind == 1)))], ⟨[(0, .blk 47 [iv (p.kind), iv (p.flow.lo), iv (p.flow.hi), iv (p.warm.lo), iv (p.warm.hi), iv (p.heat.lo), iv (p.heat.hi), iv (p.share.lo), iv (p.share.hi)])], [], []⟩⟩) [] S (by kernel_rfl) (by kernel_rfl) (by kernel_rfl) trivial ?_
    clear S; intro E a w S
    refine sym_if_last (b := (p.kind == 1)) S rfl (fun hb2 => ?_) (fun hb2 => ?_)
    · have h := bif_t hb2 h
      cases h
    · have h := bif_f hb2 h
      refine sym_seq lay_ok mixed [] [1, 5, 20] [0] (⟨[(1, .own 0 0), (5, iv (p.kind)), (20, .v (.bool (p.kind == 2)))], ⟨[(0, .blk 47 [iv (p.kind), iv (p.flow.lo), iv (p.flow.hi), iv (p.warm.lo), iv (p.warm.hi), iv (p.heat.lo), iv (p.heat.hi), iv (p.share.lo), iv (p.share.hi)])], [], []⟩⟩) [] S (by kernel_rfl) (by kernel_rfl) (by kernel_rfl) trivial ?_
      clear S; intro E a w S
      refine sym_if_last (b := (p.kind == 2)) S rfl (fun hb3 => ?_) (fun hb3 => ?_)
      · have h := bif_t hb3 h
        cases h
      · have h := bif_f hb3 h
        refine sym_seq lay_ok mixed [] [1, 26] [0] (⟨[(1, .own 0 0), (26, .v (.bool (p.kind == 3)))], ⟨[(0, .blk 47 [iv (p.kind), iv (p.flow.lo), iv (p.flow.hi), iv (p.warm.lo), iv (p.warm.hi), iv (p.heat.lo), iv (p.heat.hi), iv (p.share.lo), iv (p.share.hi)])], [], []⟩⟩) [] S (by kernel_rfl) (by kernel_rfl) (by kernel_rfl) trivial ?_
        clear S; intro E a w S
        refine sym_if_last (b := (p.kind == 3)) S rfl (fun hb4 => ?_) (fun hb4 => ?_)
        · have h := bif_t hb4 h
          cases h
        · have h := bif_f hb4 h
          refine wp_skip ?_
          refine out_block_normal ?_
          refine out_then_normal ?_
          refine sym_seq lay_ok mixed [] [2, 3] [] (⟨[(2, .v (.nilIface)), (3, .v (.bool false))], ⟨[], [], []⟩⟩) [] S (by kernel_rfl) (by kernel_rfl) (by kernel_rfl) trivial ?_
          clear S; intro E a w S
          refine wp_ret ?_
          have h := Option.some.inj h
          subst h
          exact sym_ret lay_ok [.v (.nilIface), .v (.bool false)] (by kernel_rfl) rfl S ⟨rfl, S.below rfl⟩
end Go.Proofs.Ytlcccomdijdkaaa
