/- Models and walks, printed by program. -/
import Derived.Test.YtlcccomdijdkaaaSyIt
import Derived.Test.YtlcccomdijdkaaaSyNew
namespace Go.Proofs.Ytlcccomdijdkaaa
open Go.RowKit Go.Proofs.Try

/-- a block that holds the points -/
def PBox (l : List MPoint) (v : Nat → Value) (w : World) : Prop := ∃ x r, v 0 = .pointer (some ⟨x, 0, none⟩) ∧ Blk w x 26 #[.slice r.A r.len r.cap] ∧ RdAt w (pQ l) r
/-- the point that adds a heat -/
abbrev addP (heat : Int) : MPoint := ⟨2, ⟨0, 0⟩, ⟨0, 0⟩, ⟨heat, heat⟩, ⟨0, 0⟩⟩
/-- three blocks that hold the points, where one more is handed on, and that -/
def HBox (l : List MPoint) (at' heat : Int) (v : Nat → Value) (w : World) : Prop := ∃ x y z r, v 0 = .pointer (some ⟨x, 0, none⟩) ∧ v 1 = .pointer (some ⟨y, 0, none⟩) ∧ v 2 = .pointer (some ⟨z, 0, none⟩) ∧ Blk w x 26 #[.slice r.A r.len r.cap] ∧ Blk w y 3 #[.int .i64 at'] ∧ Blk w z 47 (pCells (addP heat)).toArray ∧ RdAt w (pQ l) r
set_option maxRecDepth 100000 in
set_option maxHeartbeats 4000000 in
theorem values_ok (l : List MPoint) (W : World) (R : Nat → Prop) (A0 : Option Addr) (c0 : Nat) (h0 : l.length ≤ c0) (s0 : SlAt W A0 l.length 9 fun i => [.int .i64 ((l.getD i default).kind), .int .i64 (((l.getD i default).flow).lo), .int .i64 (((l.getD i default).flow).hi), .int .i64 (((l.getD i default).warm).lo), .int .i64 (((l.getD i default).warm).hi), .int .i64 (((l.getD i default).heat).lo), .int .i64 (((l.getD i default).heat).hi), .int .i64 (((l.getD i default).share).lo), .int .i64 (((l.getD i default).share).hi)]) (r0 : InR R A0 l.length) :
    Calls Go.Proofs.Try.prog 36 #[.slice A0 l.length c0] W fun e w' => ∃ v : Nat → Value, e = .returned (.func (.func 55) #[] #[v 0]) ∧ Below W.heap.size W w' ∧ (∀ i, (v i).oneCell' = true) ∧ HeldIn (fun k => W.heap.size ≤ k ∨ R k) w' (PBox l v) := by
  have h : (some () : Option Unit) = some () := rfl
  refine sym_call (f := 36) (fn := Go.Proofs.Try.f36) (c := Go.Proofs.Try.f36.body.get rfl) Go.Proofs.Try.func36 rfl [.sl 0] [(0, pQ l)] [] (envOf [(0, ⟨A0, l.length, c0, 9⟩)]) R (fun _ _ => rfl) (by kernel_rfl) (envOf_one trivial) ⟨s0.rd h0, trivial⟩ ⟨r0, trivial⟩ trivial fun E a w S => ?_
  refine sym_seq lay_ok mixed [(0, { g := 0 })] [1] [0] (⟨[(1, .own 0 0)], ⟨[(0, .blk 26 [.sl 0])], [(0, pQ l)], []⟩⟩) [] S (by kernel_rfl) (by kernel_rfl) (by kernel_rfl) trivial ?_
  clear S; intro E a w S
  refine sym_seq lay_ok mixed [] [2] [0] (⟨[(2, .fn 55 [.own 0 0])], ⟨[(0, .blk 26 [.sl 0])], [(0, pQ l)], []⟩⟩) [] S (by kernel_rfl) (by kernel_rfl) (by kernel_rfl) trivial ?_
  clear S; intro E a w S
  refine wp_ret ?_
  have h := Option.some.inj h
  clear h
  exact sym_ret lay_ok [.fn 55 [.own 0 0]] (by kernel_rfl) rfl S ⟨vfun [.pointer (some ⟨E.ρ 0, 0, none⟩)], rfl, S.below rfl, vfun_one _ ⟨rfl, trivial⟩, ((HeldIn.mono (S.own_blk (g := 0) rfl rfl) (fun k _ h => .inl h)).and (S.rd_held (s := 0) rfl (fun i hi => by simp))).imp fun w hw => ⟨_, _, rfl, hw.1, hw.2⟩⟩
set_option maxRecDepth 100000 in
set_option maxHeartbeats 4000000 in
theorem heatedOf_ok (l : List MPoint) (at' heat : Int) (W : World) (R : Nat → Prop) (A0 : Option Addr) (c0 : Nat) (h0 : l.length ≤ c0) (s0 : SlAt W A0 l.length 9 fun i => [.int .i64 ((l.getD i default).kind), .int .i64 (((l.getD i default).flow).lo), .int .i64 (((l.getD i default).flow).hi), .int .i64 (((l.getD i default).warm).lo), .int .i64 (((l.getD i default).warm).hi), .int .i64 (((l.getD i default).heat).lo), .int .i64 (((l.getD i default).heat).hi), .int .i64 (((l.getD i default).share).lo), .int .i64 (((l.getD i default).share).hi)]) (r0 : InR R A0 l.length) :
    Calls Go.Proofs.Try.prog 42 #[.slice A0 l.length c0, .int .i64 at', .int .i64 heat] W fun e w' => ∃ v : Nat → Value, e = .returned (.func (.func 57) #[] #[v 0, v 1, v 2]) ∧ Below W.heap.size W w' ∧ (∀ i, (v i).oneCell' = true) ∧ HeldIn (fun k => W.heap.size ≤ k ∨ R k) w' (HBox l at' heat v) := by
  have h : (some () : Option Unit) = some () := rfl
  refine sym_call (f := 42) (fn := Go.Proofs.Try.f42) (c := Go.Proofs.Try.f42.body.get rfl) Go.Proofs.Try.func42 rfl [.sl 0, .v (.int .i64 at'), .v (.int .i64 heat)] [(0, pQ l)] [] (envOf [(0, ⟨A0, l.length, c0, 9⟩)]) R (fun _ _ => rfl) (by kernel_rfl) (envOf_one trivial) ⟨s0.rd h0, trivial⟩ ⟨r0, trivial⟩ trivial fun E a w S => ?_
  refine sym_seq lay_ok mixed [(0, { g := 0 }), (1, { g := 1 })] [2, 3, 4] [0, 1] (⟨[(2, .v (.int .i64 heat)), (3, .own 0 0), (4, .own 1 0)], ⟨[(0, .blk 26 [.sl 0]), (1, .blk 3 [.v (.int .i64 at')])], [(0, pQ l)], []⟩⟩) [] S (by kernel_rfl) (by kernel_rfl) (by kernel_rfl) trivial ?_
  clear S; intro E a w S
  refine sym_seq lay_ok mixed [(4, { g := 2 })] [3, 4, 7] [0, 1, 2] (⟨[(3, .own 0 0), (4, .own 1 0), (7, .own 2 0)], ⟨[(0, .blk 26 [.sl 0]), (1, .blk 3 [.v (.int .i64 at')]), (2, .blk 47 [.v (.int .i64 2), .v (.int .i64 0), .v (.int .i64 0), .v (.int .i64 0), .v (.int .i64 0), .v (.int .i64 heat), .v (.int .i64 heat), .v (.int .i64 0), .v (.int .i64 0)])], [(0, pQ l)], []⟩⟩) [] S (by kernel_rfl) (by kernel_rfl) (by kernel_rfl) trivial ?_
  clear S; intro E a w S
  refine sym_seq lay_ok mixed [] [6] [0, 1, 2] (⟨[(6, .fn 57 [.own 0 0, .own 1 0, .own 2 0])], ⟨[(0, .blk 26 [.sl 0]), (1, .blk 3 [.v (.int .i64 at')]), (2, .blk 47 [.v (.int .i64 2), .v (.int .i64 0), .v (.int .i64 0), .v (.int .i64 0), .v (.int .i64 0), .v (.int .i64 heat), .v (.int .i64 heat), .v (.int .i64 0), .v (.int .i64 0)])], [(0, pQ l)], []⟩⟩) [] S (by kernel_rfl) (by kernel_rfl) (by kernel_rfl) trivial ?_
  clear S; intro E a w S
  refine wp_ret ?_
  have h := Option.some.inj h
  clear h
  exact sym_ret lay_ok [.fn 57 [.own 0 0, .own 1 0, .own 2 0]] (by kernel_rfl) rfl S ⟨vfun [.pointer (some ⟨E.ρ 0, 0, none⟩), .pointer (some ⟨E.ρ 1, 0, none⟩), .pointer (some ⟨E.ρ 2, 0, none⟩)], rfl, S.below rfl, vfun_one _ ⟨rfl, rfl, rfl, trivial⟩, ((HeldIn.mono (((S.own_blk (g := 0) rfl rfl).and (S.own_blk (g := 1) rfl rfl)).and (S.own_blk (g := 2) rfl rfl)) (fun k _ h => .inl h)).and (S.rd_held (s := 0) rfl (fun i hi => by simp))).imp fun w hw => ⟨_, _, _, _, rfl, rfl, rfl, hw.1.1.1, hw.1.1.2, hw.1.2, hw.2⟩⟩
/-- follow, by Values -/
theorem follow_values (c0 : MWater) (l : List MPoint) (W : World) (v : Nat → Value) (hb : PBox l v W) (hl : l.length ≤ 1000000) (res : List MWater × Int) (h : followM c0 [] l = some res) : Calls prog 35 #[.agg (wCells c0).toArray, .func (.func 55) #[] #[v 0]] W (FolPost W res) := by
  obtain ⟨x, r, hv, hx, hr⟩ := hb
  obtain ⟨r1, r2, r3⟩ := hr.sl
  rw [hv]
  rw [r1] at hx
  exact follow_ok c0 l 55 _ _ W res h enters_55 (valuesSeq l r.A r.cap x W (by omega) r2 r3 hx) (fun k hk => hk)
def wormtubref05_Flow_R (l : List MPoint) : List (Nat × Q) := [(0, ⟨l.length, 9, fun i => [.int .i64 ((l.getD i default).kind), .int .i64 (((l.getD i default).flow).lo), .int .i64 (((l.getD i default).flow).hi), .int .i64 (((l.getD i default).warm).lo), .int .i64 (((l.getD i default).warm).hi), .int .i64 (((l.getD i default).heat).lo), .int .i64 (((l.getD i default).heat).hi), .int .i64 (((l.getD i default).share).lo), .int .i64 (((l.getD i default).share).hi)]⟩)]
def wormtubref05_Flow (fuel : Nat) (first : MWater) (l : List MPoint) : Option (List MWater × Int × Int) :=
(wormtubref05_Water (MWater.mk (MSpan.mk first.flow.lo first.flow.hi) (MSpan.mk first.warm.lo first.warm.hi))).bind fun (r1 : Bool) =>
(bif (!r1) then
(some ([], 0, 1))
else
((bif decide (64 < ((l.length : Nat) : Int)) then
(some ([], 0, 3))
else
((wormtubref05_flow fuel (MWater.mk (MSpan.mk first.flow.lo first.flow.hi) (MSpan.mk first.warm.lo first.warm.hi)) l).bind fun (r2 : (List MWater × Int × Int)) =>
some (r2.1, r2.2.1, r2.2.2)))))
set_option maxRecDepth 100000 in
set_option maxHeartbeats 4000000 in
theorem wormtubref05_Flow_ok (fuel : Nat) (first : MWater) (l : List MPoint) (W : World) (A0 : Option Addr) (c0 : Nat) (h0 : l.length ≤ c0) (s0 : SlAt W A0 l.length 9 fun i => [.int .i64 ((l.getD i default).kind), .int .i64 (((l.getD i default).flow).lo), .int .i64 (((l.getD i default).flow).hi), .int .i64 (((l.getD i default).warm).lo), .int .i64 (((l.getD i default).warm).hi), .int .i64 (((l.getD i default).heat).lo), .int .i64 (((l.getD i default).heat).hi), .int .i64 (((l.getD i default).share).lo), .int .i64 (((l.getD i default).share).hi)]) (res : List MWater × Int × Int) (h : wormtubref05_Flow fuel first l = some res) :
    Calls Go.Proofs.Try.prog 14 #[.agg #[.int .i64 first.flow.lo, .int .i64 first.flow.hi, .int .i64 first.warm.lo, .int .i64 first.warm.hi], .slice A0 l.length c0] W fun e w' => ∃ v : Nat → Value, e = .returned (.tuple #[v 0, .int .i64 res.2.1, .int .i64 res.2.2]) ∧ Below W.heap.size W w' ∧ (∀ i, (v i).oneCell' = true) ∧ HeldIn (fun k => W.heap.size ≤ k) w' (SlicesAre 0 [⟨res.1.length, 4, fun i => [.int .i64 (((res.1.getD i default).flow).lo), .int .i64 (((res.1.getD i default).flow).hi), .int .i64 (((res.1.getD i default).warm).lo), .int .i64 (((res.1.getD i default).warm).hi)]⟩] v) := by
  refine sym_call (f := 14) (fn := Go.Proofs.Try.f14) (c := Go.Proofs.Try.f14.body.get rfl) Go.Proofs.Try.func14 rfl [.agg [.v (.int .i64 first.flow.lo), .v (.int .i64 first.flow.hi), .v (.int .i64 first.warm.lo), .v (.int .i64 first.warm.hi)], .sl 0] (wormtubref05_Flow_R l) [] (envOf [(0, ⟨A0, l.length, c0, 9⟩)]) allR (fun _ _ => rfl) (by kernel_rfl) (envOf_one trivial) ⟨s0.rd h0, trivial⟩ (AllRR.all _ _) trivial fun E a w S => ?_
  rw [wormtubref05_Flow] at h
  refine sym_seq lay_ok mixed [(0, { g := 0 })] [1, 2] [0] (⟨[(1, .sl 0), (2, .own 0 0)], ⟨[(0, .blk 25 [.v (.int .i64 first.flow.lo), .v (.int .i64 first.flow.hi), .v (.int .i64 first.warm.lo), .v (.int .i64 first.warm.hi)])], (wormtubref05_Flow_R l), []⟩⟩) [] S (by kernel_rfl) (by kernel_rfl) (by kernel_rfl) trivial ?_
  clear S; intro E a w S
  refine wp_seq ?_
  obtain ⟨r1, e1, h⟩ := bind_some h
  refine sym_seq lay_ok mixed [(1, { res := .v (.bool r1) })] [1, 2, 9] [0] (⟨[(1, .sl 0), (2, .own 0 0), (9, .v (.bool (!r1)))], ⟨[(0, .blk 25 [.v (.int .i64 first.flow.lo), .v (.int .i64 first.flow.hi), .v (.int .i64 first.warm.lo), .v (.int .i64 first.warm.hi)])], (wormtubref05_Flow_R l), []⟩⟩) [.call ⟨[], (wormtubref05_Flow_R l), []⟩ 23 [.agg [.v (.int .i64 first.flow.lo), .v (.int .i64 first.flow.hi), .v (.int .i64 first.warm.lo), .v (.int .i64 first.warm.hi)]] (.v (.bool r1))] S (by kernel_rfl) (by kernel_rfl) (by kernel_rfl) ⟨⟨enters_23, fun _ W _ hm => wormtubref05_Water_ok (MWater.mk (MSpan.mk first.flow.lo first.flow.hi) (MSpan.mk first.warm.lo first.warm.hi)) W r1 e1⟩, trivial⟩ ?_
  clear S; intro E a w S
  refine sym_if_last (b := (!r1)) S rfl (fun hb1 => ?_) (fun hb1 => ?_)
  · have h := bif_t hb1 h
    refine sym_seq lay_ok mixed [] [4, 5, 6] [] (⟨[(4, .v (.slice none 0 0)), (5, .v (.int .i64 0)), (6, .v (.int .i64 1))], ⟨[], (wormtubref05_Flow_R l), []⟩⟩) [] S (by kernel_rfl) (by kernel_rfl) (by kernel_rfl) trivial ?_
    clear S; intro E a w S
    refine wp_ret ?_
    refine out_then_ret ?_
    have h := Option.some.inj h
    subst h
    exact sym_ret lay_ok [.v (.slice none 0 0), .v (.int .i64 0), .v (.int .i64 1)] (by kernel_rfl) rfl S ⟨vfun [.slice none 0 0], rfl, S.below rfl, vfun_one [.slice none 0 0] ⟨rfl, trivial⟩, ((HeldIn.true fun _ => ⟨_, _, rfl, Nat.le_refl _, SlAt.nil⟩).and (HeldIn.true fun _ => trivial))⟩
  · have h := bif_f hb1 h
    refine wp_skip ?_
    refine out_then_normal ?_
    refine wp_seq ?_
    refine sym_seq lay_ok mixed [] [1, 2, 12] [0] (⟨[(1, .sl 0), (2, .own 0 0), (12, .v (.bool (decide (64 < ((l.length : Nat) : Int)))))], ⟨[(0, .blk 25 [.v (.int .i64 first.flow.lo), .v (.int .i64 first.flow.hi), .v (.int .i64 first.warm.lo), .v (.int .i64 first.warm.hi)])], (wormtubref05_Flow_R l), []⟩⟩) [] S (by kernel_rfl) (by kernel_rfl) (by kernel_rfl) trivial ?_
    clear S; intro E a w S
    refine sym_if_last (b := decide (64 < ((l.length : Nat) : Int))) S rfl (fun hb2 => ?_) (fun hb2 => ?_)
    · have h := bif_t hb2 h
      refine sym_seq lay_ok mixed [] [4, 5, 6] [] (⟨[(4, .v (.slice none 0 0)), (5, .v (.int .i64 0)), (6, .v (.int .i64 3))], ⟨[], (wormtubref05_Flow_R l), []⟩⟩) [] S (by kernel_rfl) (by kernel_rfl) (by kernel_rfl) trivial ?_
      clear S; intro E a w S
      refine wp_ret ?_
      refine out_then_ret ?_
      have h := Option.some.inj h
      subst h
      exact sym_ret lay_ok [.v (.slice none 0 0), .v (.int .i64 0), .v (.int .i64 3)] (by kernel_rfl) rfl S ⟨vfun [.slice none 0 0], rfl, S.below rfl, vfun_one [.slice none 0 0] ⟨rfl, trivial⟩, ((HeldIn.true fun _ => ⟨_, _, rfl, Nat.le_refl _, SlAt.nil⟩).and (HeldIn.true fun _ => trivial))⟩
    · have h := bif_f hb2 h
      refine wp_skip ?_
      refine out_then_normal ?_
      obtain ⟨r2, e2, h⟩ := bind_some h
      refine sym_seq lay_ok mixed [(2, { g := 1, res := .tup [.ltr 1 0, .v (.int .i64 r2.2.1), .v (.int .i64 r2.2.2)], hx := some (SliceNew W.heap.size ⟨r2.1.length, 4, fun i => [.int .i64 (((r2.1.getD i default).flow).lo), .int .i64 (((r2.1.getD i default).flow).hi), .int .i64 (((r2.1.getD i default).warm).lo), .int .i64 (((r2.1.getD i default).warm).hi)]⟩) })] [4, 5, 6] [1] (⟨[(4, .ltr 1 0), (5, .v (.int .i64 r2.2.1)), (6, .v (.int .i64 r2.2.2))], ⟨[(1, .held (SliceNew W.heap.size ⟨r2.1.length, 4, fun i => [.int .i64 (((r2.1.getD i default).flow).lo), .int .i64 (((r2.1.getD i default).flow).hi), .int .i64 (((r2.1.getD i default).warm).lo), .int .i64 (((r2.1.getD i default).warm).hi)]⟩))], (wormtubref05_Flow_R l), []⟩⟩) [.callx ⟨[], (wormtubref05_Flow_R l), []⟩ 1 37 [.agg [.v (.int .i64 first.flow.lo), .v (.int .i64 first.flow.hi), .v (.int .i64 first.warm.lo), .v (.int .i64 first.warm.hi)], .sl 0] (.tup [.ltr 1 0, .v (.int .i64 r2.2.1), .v (.int .i64 r2.2.2)]) (SliceNew W.heap.size ⟨r2.1.length, 4, fun i => [.int .i64 (((r2.1.getD i default).flow).lo), .int .i64 (((r2.1.getD i default).flow).hi), .int .i64 (((r2.1.getD i default).warm).lo), .int .i64 (((r2.1.getD i default).warm).hi)]⟩)] S (by kernel_rfl) (by kernel_rfl) (by kernel_rfl) ⟨⟨enters_37, fun E W _ hm => by obtain ⟨A0, c0, q0, l0, s0, _⟩ := Mem.sl hm (s := 0) rfl; simp only [SV.vals, SV.val, q0]; exact ((wormtubref05_flow_ok fuel (MWater.mk (MSpan.mk first.flow.lo first.flow.hi) (MSpan.mk first.warm.lo first.warm.hi)) l W A0 c0 l0 s0 r2 e2).mono fun e w' hx => by obtain ⟨v, h1, h2, h3, h4⟩ := hx; exact ⟨v, h1, h2, h3, (SliceNew.of hm.size h4 (by simp)).mono fun _ _ h => .inl h⟩)⟩, trivial⟩ ?_
      clear S; intro E a w S
      refine wp_ret ?_
      have h := Option.some.inj h
      subst h
      exact sym_ret lay_ok [.ltr 1 0, .v (.int .i64 r2.2.1), .v (.int .i64 r2.2.2)] (by kernel_rfl) rfl S ⟨vfun [E.x 1 0], rfl, S.below rfl, vfun_one [E.x 1 0] ⟨(S.mem.one 1 0), trivial⟩, ((SliceNew.back (S.sep.held 1 _ rfl) (u := vfun [E.x 1 0]) (j := 0) rfl (fun i hi => by simp)).and (HeldIn.true fun _ => trivial))⟩
def stream_Flow_R (l : List MPoint) : List (Nat × Q) := [(0, ⟨l.length, 9, fun i => [.int .i64 ((l.getD i default).kind), .int .i64 (((l.getD i default).flow).lo), .int .i64 (((l.getD i default).flow).hi), .int .i64 (((l.getD i default).warm).lo), .int .i64 (((l.getD i default).warm).hi), .int .i64 (((l.getD i default).heat).lo), .int .i64 (((l.getD i default).heat).hi), .int .i64 (((l.getD i default).share).lo), .int .i64 (((l.getD i default).share).hi)]⟩)]
def stream_Flow (first : MWater) (l : List MPoint) : Option (List MWater × Int × Int) :=
(stream_validWater (MWater.mk (MSpan.mk first.flow.lo first.flow.hi) (MSpan.mk first.warm.lo first.warm.hi))).bind fun (r1 : Bool) =>
(bif (!r1) then
(some ([], 0, 1))
else
((bif decide (64 < ((l.length : Nat) : Int)) then
(some ([], 0, 3))
else
(grd ((l.length ≤ 1000000)) <|
(followM (MWater.mk (MSpan.mk first.flow.lo first.flow.hi) (MSpan.mk first.warm.lo first.warm.hi)) [] l).bind fun (r2 : List MWater × Int) =>
(bif (r2.2 != 0) then
(some ([], ((r2.1.length : Nat) : Int), r2.2))
else
(some (r2.1, ((r2.1.length : Nat) : Int), 0)))))))
set_option maxRecDepth 100000 in
set_option maxHeartbeats 4000000 in
theorem stream_Flow_ok (first : MWater) (l : List MPoint) (W : World) (A0 : Option Addr) (c0 : Nat) (h0 : l.length ≤ c0) (s0 : SlAt W A0 l.length 9 fun i => [.int .i64 ((l.getD i default).kind), .int .i64 (((l.getD i default).flow).lo), .int .i64 (((l.getD i default).flow).hi), .int .i64 (((l.getD i default).warm).lo), .int .i64 (((l.getD i default).warm).hi), .int .i64 (((l.getD i default).heat).lo), .int .i64 (((l.getD i default).heat).hi), .int .i64 (((l.getD i default).share).lo), .int .i64 (((l.getD i default).share).hi)]) (res : List MWater × Int × Int) (h : stream_Flow first l = some res) :
    Calls Go.Proofs.Try.prog 13 #[.agg #[.int .i64 first.flow.lo, .int .i64 first.flow.hi, .int .i64 first.warm.lo, .int .i64 first.warm.hi], .slice A0 l.length c0] W fun e w' => ∃ v : Nat → Value, e = .returned (.tuple #[v 0, .int .i64 res.2.1, .int .i64 res.2.2]) ∧ Below W.heap.size W w' ∧ (∀ i, (v i).oneCell' = true) ∧ HeldIn (fun k => W.heap.size ≤ k) w' (SlicesAre 0 [⟨res.1.length, 4, fun i => [.int .i64 (((res.1.getD i default).flow).lo), .int .i64 (((res.1.getD i default).flow).hi), .int .i64 (((res.1.getD i default).warm).lo), .int .i64 (((res.1.getD i default).warm).hi)]⟩] v) := by
  refine sym_call (f := 13) (fn := Go.Proofs.Try.f13) (c := Go.Proofs.Try.f13.body.get rfl) Go.Proofs.Try.func13 rfl [.agg [.v (.int .i64 first.flow.lo), .v (.int .i64 first.flow.hi), .v (.int .i64 first.warm.lo), .v (.int .i64 first.warm.hi)], .sl 0] (stream_Flow_R l) [] (envOf [(0, ⟨A0, l.length, c0, 9⟩)]) allR (fun _ _ => rfl) (by kernel_rfl) (envOf_one trivial) ⟨s0.rd h0, trivial⟩ (AllRR.all _ _) trivial fun E a w S => ?_
  rw [stream_Flow] at h
  refine sym_seq lay_ok mixed [(0, { g := 0 })] [1, 2] [0] (⟨[(1, .sl 0), (2, .own 0 0)], ⟨[(0, .blk 25 [.v (.int .i64 first.flow.lo), .v (.int .i64 first.flow.hi), .v (.int .i64 first.warm.lo), .v (.int .i64 first.warm.hi)])], (stream_Flow_R l), []⟩⟩) [] S (by kernel_rfl) (by kernel_rfl) (by kernel_rfl) trivial ?_
  clear S; intro E a w S
  refine wp_seq ?_
  obtain ⟨r1, e1, h⟩ := bind_some h
  refine sym_seq lay_ok mixed [(1, { res := .v (.bool r1) })] [1, 2, 9] [0] (⟨[(1, .sl 0), (2, .own 0 0), (9, .v (.bool (!r1)))], ⟨[(0, .blk 25 [.v (.int .i64 first.flow.lo), .v (.int .i64 first.flow.hi), .v (.int .i64 first.warm.lo), .v (.int .i64 first.warm.hi)])], (stream_Flow_R l), []⟩⟩) [.call ⟨[], (stream_Flow_R l), []⟩ 34 [.agg [.v (.int .i64 first.flow.lo), .v (.int .i64 first.flow.hi), .v (.int .i64 first.warm.lo), .v (.int .i64 first.warm.hi)]] (.v (.bool r1))] S (by kernel_rfl) (by kernel_rfl) (by kernel_rfl) ⟨⟨enters_34, fun _ W _ hm => stream_validWater_ok (MWater.mk (MSpan.mk first.flow.lo first.flow.hi) (MSpan.mk first.warm.lo first.warm.hi)) W r1 e1⟩, trivial⟩ ?_
  clear S; intro E a w S
  refine sym_if_last (b := (!r1)) S rfl (fun hb1 => ?_) (fun hb1 => ?_)
  · have h := bif_t hb1 h
    refine sym_seq lay_ok mixed [] [4, 5, 6] [] (⟨[(4, .v (.slice none 0 0)), (5, .v (.int .i64 0)), (6, .v (.int .i64 1))], ⟨[], (stream_Flow_R l), []⟩⟩) [] S (by kernel_rfl) (by kernel_rfl) (by kernel_rfl) trivial ?_
    clear S; intro E a w S
    refine wp_ret ?_
    refine out_then_ret ?_
    have h := Option.some.inj h
    subst h
    exact sym_ret lay_ok [.v (.slice none 0 0), .v (.int .i64 0), .v (.int .i64 1)] (by kernel_rfl) rfl S ⟨vfun [.slice none 0 0], rfl, S.below rfl, vfun_one [.slice none 0 0] ⟨rfl, trivial⟩, ((HeldIn.true fun _ => ⟨_, _, rfl, Nat.le_refl _, SlAt.nil⟩).and (HeldIn.true fun _ => trivial))⟩
  · have h := bif_f hb1 h
    refine wp_skip ?_
    refine out_then_normal ?_
    refine wp_seq ?_
    refine sym_seq lay_ok mixed [] [1, 2, 12] [0] (⟨[(1, .sl 0), (2, .own 0 0), (12, .v (.bool (decide (64 < ((l.length : Nat) : Int)))))], ⟨[(0, .blk 25 [.v (.int .i64 first.flow.lo), .v (.int .i64 first.flow.hi), .v (.int .i64 first.warm.lo), .v (.int .i64 first.warm.hi)])], (stream_Flow_R l), []⟩⟩) [] S (by kernel_rfl) (by kernel_rfl) (by kernel_rfl) trivial ?_
    clear S; intro E a w S
    refine sym_if_last (b := decide (64 < ((l.length : Nat) : Int))) S rfl (fun hb2 => ?_) (fun hb2 => ?_)
    · have h := bif_t hb2 h
      refine sym_seq lay_ok mixed [] [4, 5, 6] [] (⟨[(4, .v (.slice none 0 0)), (5, .v (.int .i64 0)), (6, .v (.int .i64 3))], ⟨[], (stream_Flow_R l), []⟩⟩) [] S (by kernel_rfl) (by kernel_rfl) (by kernel_rfl) trivial ?_
      clear S; intro E a w S
      refine wp_ret ?_
      refine out_then_ret ?_
      have h := Option.some.inj h
      subst h
      exact sym_ret lay_ok [.v (.slice none 0 0), .v (.int .i64 0), .v (.int .i64 3)] (by kernel_rfl) rfl S ⟨vfun [.slice none 0 0], rfl, S.below rfl, vfun_one [.slice none 0 0] ⟨rfl, trivial⟩, ((HeldIn.true fun _ => ⟨_, _, rfl, Nat.le_refl _, SlAt.nil⟩).and (HeldIn.true fun _ => trivial))⟩
    · have h := bif_f hb2 h
      refine wp_skip ?_
      refine out_then_normal ?_
      obtain ⟨g1, h⟩ := grd_some h
      obtain ⟨r2, e2, h⟩ := bind_some h
      refine sym_seq lay_ok mixed [(2, { g := 1, res := .fn 55 [.ltr 1 0], hx := some (PBox l) }), (3, { g := 2, fp := [1], res := .tup [.ltr 2 0, .v (.int .i64 r2.2)], hx := some (SliceNew W.heap.size ⟨r2.1.length, 4, fun i => [.int .i64 (((r2.1.getD i default).flow).lo), .int .i64 (((r2.1.getD i default).flow).hi), .int .i64 (((r2.1.getD i default).warm).lo), .int .i64 (((r2.1.getD i default).warm).hi)]⟩) })] [4, 6] [2] (⟨[(4, .ltr 2 0), (6, .v (.int .i64 r2.2))], ⟨[(2, .held (SliceNew W.heap.size ⟨r2.1.length, 4, fun i => [.int .i64 (((r2.1.getD i default).flow).lo), .int .i64 (((r2.1.getD i default).flow).hi), .int .i64 (((r2.1.getD i default).warm).lo), .int .i64 (((r2.1.getD i default).warm).hi)]⟩))], (stream_Flow_R l), []⟩⟩) [.callx ⟨[], (stream_Flow_R l), []⟩ 1 36 [.sl 0] (.fn 55 [.ltr 1 0]) (PBox l), .callx ⟨[(1, .held (PBox l))], (stream_Flow_R l), []⟩ 2 35 [.agg [.v (.int .i64 first.flow.lo), .v (.int .i64 first.flow.hi), .v (.int .i64 first.warm.lo), .v (.int .i64 first.warm.hi)], .fn 55 [.ltr 1 0]] (.tup [.ltr 2 0, .v (.int .i64 r2.2)]) (SliceNew W.heap.size ⟨r2.1.length, 4, fun i => [.int .i64 (((r2.1.getD i default).flow).lo), .int .i64 (((r2.1.getD i default).flow).hi), .int .i64 (((r2.1.getD i default).warm).lo), .int .i64 (((r2.1.getD i default).warm).hi)]⟩)] S (by kernel_rfl) (by kernel_rfl) (by kernel_rfl) ⟨⟨enters_36, fun E W R hm => by obtain ⟨A0, c0, q0, l0, s0, r0⟩ := Mem.sl hm (s := 0) rfl; simp only [SV.vals, SV.val, q0, Env.updX_same]; exact values_ok l W R A0 c0 l0 s0 r0⟩, ⟨enters_35, fun E W R hm => by have hx := follow_values (MWater.mk (MSpan.mk first.flow.lo first.flow.hi) (MSpan.mk first.warm.lo first.warm.hi)) l W (E.x 1) (hm.held 1 _ rfl).out g1 r2 e2; simp only [SV.vals, SV.val, Env.updX_same]; exact hx.mono fun e w' hx => by obtain ⟨v, h1, h2, h3, h4⟩ := hx; exact ⟨v, h1, h2, h3, (SliceNew.of hm.size h4 (fun _ => by simp)).mono fun _ _ h => .inl h⟩⟩, trivial⟩ ?_
      clear S; intro E a w S
      refine sym_seq lay_ok mixed [(1, { fp := [2], px := some (.v (.int .i64 ((r2.1.length : Nat) : Int))) })] [4, 6, 5] [2] (⟨[(4, .ltr 2 0), (6, .v (.int .i64 r2.2)), (5, .v (.int .i64 ((r2.1.length : Nat) : Int)))], ⟨[(2, .held (SliceNew W.heap.size ⟨r2.1.length, 4, fun i => [.int .i64 (((r2.1.getD i default).flow).lo), .int .i64 (((r2.1.getD i default).flow).hi), .int .i64 (((r2.1.getD i default).warm).lo), .int .i64 (((r2.1.getD i default).warm).hi)]⟩))], (stream_Flow_R l), []⟩⟩) [.pure ⟨[(2, .held (SliceNew W.heap.size ⟨r2.1.length, 4, fun i => [.int .i64 (((r2.1.getD i default).flow).lo), .int .i64 (((r2.1.getD i default).flow).hi), .int .i64 (((r2.1.getD i default).warm).lo), .int .i64 (((r2.1.getD i default).warm).hi)]⟩))], (stream_Flow_R l), []⟩ (.call ⟨.builtin .len, #[.tmp 20], #[29]⟩) [.ltr 2 0] (.v (.int .i64 ((r2.1.length : Nat) : Int)))] S (by kernel_rfl) (by kernel_rfl) (by kernel_rfl) ⟨pure_len lay_ok rfl rfl (fun v w h => ⟨_, _, h.1.choose_spec.choose_spec.1⟩), trivial⟩ ?_
      clear S; intro E a w S
      refine wp_seq ?_
      refine sym_seq lay_ok mixed [] [4, 6, 5, 23] [2] (⟨[(4, .ltr 2 0), (6, .v (.int .i64 r2.2)), (5, .v (.int .i64 ((r2.1.length : Nat) : Int))), (23, .v (.bool (r2.2 != 0)))], ⟨[(2, .held (SliceNew W.heap.size ⟨r2.1.length, 4, fun i => [.int .i64 (((r2.1.getD i default).flow).lo), .int .i64 (((r2.1.getD i default).flow).hi), .int .i64 (((r2.1.getD i default).warm).lo), .int .i64 (((r2.1.getD i default).warm).hi)]⟩))], (stream_Flow_R l), []⟩⟩) [] S (by kernel_rfl) (by kernel_rfl) (by kernel_rfl) trivial ?_
      clear S; intro E a w S
      refine sym_if_last (b := (r2.2 != 0)) S rfl (fun hb3 => ?_) (fun hb3 => ?_)
      · have h := bif_t hb3 h
        refine sym_seq lay_ok mixed [] [4, 6, 5] [] (⟨[(4, .v (.slice none 0 0)), (6, .v (.int .i64 r2.2)), (5, .v (.int .i64 ((r2.1.length : Nat) : Int)))], ⟨[], (stream_Flow_R l), []⟩⟩) [] S (by kernel_rfl) (by kernel_rfl) (by kernel_rfl) trivial ?_
        clear S; intro E a w S
        refine wp_ret ?_
        refine out_then_ret ?_
        have h := Option.some.inj h
        subst h
        exact sym_ret lay_ok [.v (.slice none 0 0), .v (.int .i64 ((r2.1.length : Nat) : Int)), .v (.int .i64 r2.2)] (by kernel_rfl) rfl S ⟨vfun [.slice none 0 0], rfl, S.below rfl, vfun_one [.slice none 0 0] ⟨rfl, trivial⟩, ((HeldIn.true fun _ => ⟨_, _, rfl, Nat.le_refl _, SlAt.nil⟩).and (HeldIn.true fun _ => trivial))⟩
      · have h := bif_f hb3 h
        refine wp_skip ?_
        refine out_then_normal ?_
        refine sym_seq lay_ok mixed [] [4, 6, 5] [2] (⟨[(4, .ltr 2 0), (6, .v (.int .i64 0)), (5, .v (.int .i64 ((r2.1.length : Nat) : Int)))], ⟨[(2, .held (SliceNew W.heap.size ⟨r2.1.length, 4, fun i => [.int .i64 (((r2.1.getD i default).flow).lo), .int .i64 (((r2.1.getD i default).flow).hi), .int .i64 (((r2.1.getD i default).warm).lo), .int .i64 (((r2.1.getD i default).warm).hi)]⟩))], (stream_Flow_R l), []⟩⟩) [] S (by kernel_rfl) (by kernel_rfl) (by kernel_rfl) trivial ?_
        clear S; intro E a w S
        refine wp_ret ?_
        have h := Option.some.inj h
        subst h
        exact sym_ret lay_ok [.ltr 2 0, .v (.int .i64 ((r2.1.length : Nat) : Int)), .v (.int .i64 0)] (by kernel_rfl) rfl S ⟨vfun [E.x 2 0], rfl, S.below rfl, vfun_one [E.x 2 0] ⟨(S.mem.one 2 0), trivial⟩, ((SliceNew.back (S.sep.held 2 _ rfl) (u := vfun [E.x 2 0]) (j := 0) rfl (fun i hi => by simp)).and (HeldIn.true fun _ => trivial))⟩
def stream_Warm_R (l : List MPoint) : List (Nat × Q) := [(0, ⟨l.length, 9, fun i => [.int .i64 ((l.getD i default).kind), .int .i64 (((l.getD i default).flow).lo), .int .i64 (((l.getD i default).flow).hi), .int .i64 (((l.getD i default).warm).lo), .int .i64 (((l.getD i default).warm).hi), .int .i64 (((l.getD i default).heat).lo), .int .i64 (((l.getD i default).heat).hi), .int .i64 (((l.getD i default).share).lo), .int .i64 (((l.getD i default).share).hi)]⟩)]
def stream_Warm_k1  (x1 : List Int × List Int) : Option (List Int × List Int × Int) :=
some (x1.1, x1.2, 0)
def stream_Warm_l1 (limit : Int) (r3 : (List MWater × Int × Int)) : Nat → (Int × List Int × List Int) → Option (Lp (List Int × List Int) (List Int × List Int × Int))
  | 0, _ => none
  | n + 1, b1 =>
    (bif decide (b1.1 < ((r3.1.length : Nat) : Int)) then
    (grd (((0 : Int) ≤ b1.1 ∧ (b1.1 : Int) < ((r3.1.length : Nat) : Int))) <|
    (bif decide (limit < (((r3.1.getD (Int.toNat b1.1) default).warm).lo)) then
    (grd ((b1.2.1.length + 1 ≤ 1000000)) <|
    some (b1.2.1 ++ [b1.1]))
    else
    (some b1.2.1)).bind fun (j1 : List Int) =>
    (bif decide (limit < (((r3.1.getD (Int.toNat b1.1) default).warm).hi)) then
    (grd ((b1.2.2.length + 1 ≤ 1000000)) <|
    grd (InI64 (b1.1 + 1)) <|
    stream_Warm_l1 limit r3 n ((b1.1 + 1), j1, (b1.2.2 ++ [b1.1])))
    else
    (grd (InI64 (b1.1 + 1)) <|
    stream_Warm_l1 limit r3 n ((b1.1 + 1), j1, b1.2.2))))
    else
    (some (Lp.done (b1.2.1, b1.2.2))))
def stream_Warm (fuel : Nat) (first : MWater) (l : List MPoint) (limit : Int) : Option (List Int × List Int × Int) :=
(stream_validWater (MWater.mk (MSpan.mk first.flow.lo first.flow.hi) (MSpan.mk first.warm.lo first.warm.hi))).bind fun (r1 : Bool) =>
(bif (!r1) then
(some ([], [], 1))
else
((stream_validLimit limit).bind fun (r2 : Bool) =>
(bif (!r2) then
(some ([], [], 2))
else
((stream_Flow (MWater.mk (MSpan.mk first.flow.lo first.flow.hi) (MSpan.mk first.warm.lo first.warm.hi)) l).bind fun (r3 : (List MWater × Int × Int)) =>
(bif (r3.2.2 != 0) then
(some ([], [], r3.2.2))
else
((stream_Warm_l1 limit r3 fuel (0, ([] : List Int), ([] : List Int))).bind fun lr1 => lr1.go fun x1 => stream_Warm_k1 x1))))))
set_option maxRecDepth 100000 in
set_option maxHeartbeats 4000000 in
theorem stream_Warm_ok (fuel : Nat) (first : MWater) (l : List MPoint) (limit : Int) (W : World) (A0 : Option Addr) (c0 : Nat) (h0 : l.length ≤ c0) (s0 : SlAt W A0 l.length 9 fun i => [.int .i64 ((l.getD i default).kind), .int .i64 (((l.getD i default).flow).lo), .int .i64 (((l.getD i default).flow).hi), .int .i64 (((l.getD i default).warm).lo), .int .i64 (((l.getD i default).warm).hi), .int .i64 (((l.getD i default).heat).lo), .int .i64 (((l.getD i default).heat).hi), .int .i64 (((l.getD i default).share).lo), .int .i64 (((l.getD i default).share).hi)]) (res : List Int × List Int × Int) (h : stream_Warm fuel first l limit = some res) :
    Calls Go.Proofs.Try.prog 15 #[.agg #[.int .i64 first.flow.lo, .int .i64 first.flow.hi, .int .i64 first.warm.lo, .int .i64 first.warm.hi], .slice A0 l.length c0, .int .i64 limit] W fun e w' => ∃ v : Nat → Value, e = .returned (.tuple #[v 0, v 1, .int .i64 res.2.2]) ∧ Below W.heap.size W w' ∧ (∀ i, (v i).oneCell' = true) ∧ HeldIn (fun k => W.heap.size ≤ k) w' (SlicesAre 0 [⟨res.1.length, 1, fun i => [.int .i64 (res.1.getD i default)]⟩, ⟨res.2.1.length, 1, fun i => [.int .i64 (res.2.1.getD i default)]⟩] v) := by
  refine sym_call (f := 15) (fn := Go.Proofs.Try.f15) (c := Go.Proofs.Try.f15.body.get rfl) Go.Proofs.Try.func15 rfl [.agg [.v (.int .i64 first.flow.lo), .v (.int .i64 first.flow.hi), .v (.int .i64 first.warm.lo), .v (.int .i64 first.warm.hi)], .sl 0, .v (.int .i64 limit)] (stream_Warm_R l) [] (envOf [(0, ⟨A0, l.length, c0, 9⟩)]) allR (fun _ _ => rfl) (by kernel_rfl) (envOf_one trivial) ⟨s0.rd h0, trivial⟩ (AllRR.all _ _) trivial fun E a w S => ?_
  rw [stream_Warm] at h
  refine sym_seq lay_ok mixed [(0, { g := 0 })] [1, 2, 3, 6, 7] [0] (⟨[(1, .sl 0), (2, .v (.int .i64 limit)), (3, .own 0 0), (6, .v (.slice none 0 0)), (7, .v (.slice none 0 0))], ⟨[(0, .blk 25 [.v (.int .i64 first.flow.lo), .v (.int .i64 first.flow.hi), .v (.int .i64 first.warm.lo), .v (.int .i64 first.warm.hi)])], (stream_Warm_R l), []⟩⟩) [] S (by kernel_rfl) (by kernel_rfl) (by kernel_rfl) trivial ?_
  clear S; intro E a w S
  refine wp_seq ?_
  obtain ⟨r1, e1, h⟩ := bind_some h
  refine sym_seq lay_ok mixed [(1, { res := .v (.bool r1) })] [1, 2, 3, 6, 7, 15] [0] (⟨[(1, .sl 0), (2, .v (.int .i64 limit)), (3, .own 0 0), (6, .v (.slice none 0 0)), (7, .v (.slice none 0 0)), (15, .v (.bool (!r1)))], ⟨[(0, .blk 25 [.v (.int .i64 first.flow.lo), .v (.int .i64 first.flow.hi), .v (.int .i64 first.warm.lo), .v (.int .i64 first.warm.hi)])], (stream_Warm_R l), []⟩⟩) [.call ⟨[], (stream_Warm_R l), []⟩ 34 [.agg [.v (.int .i64 first.flow.lo), .v (.int .i64 first.flow.hi), .v (.int .i64 first.warm.lo), .v (.int .i64 first.warm.hi)]] (.v (.bool r1))] S (by kernel_rfl) (by kernel_rfl) (by kernel_rfl) ⟨⟨enters_34, fun _ W _ hm => stream_validWater_ok (MWater.mk (MSpan.mk first.flow.lo first.flow.hi) (MSpan.mk first.warm.lo first.warm.hi)) W r1 e1⟩, trivial⟩ ?_
  clear S; intro E a w S
  refine sym_if_last (b := (!r1)) S rfl (fun hb1 => ?_) (fun hb1 => ?_)
  · have h := bif_t hb1 h
    refine sym_seq lay_ok mixed [] [6, 7, 8] [] (⟨[(6, .v (.slice none 0 0)), (7, .v (.slice none 0 0)), (8, .v (.int .i64 1))], ⟨[], (stream_Warm_R l), []⟩⟩) [] S (by kernel_rfl) (by kernel_rfl) (by kernel_rfl) trivial ?_
    clear S; intro E a w S
    refine wp_ret ?_
    refine out_then_ret ?_
    have h := Option.some.inj h
    subst h
    exact sym_ret lay_ok [.v (.slice none 0 0), .v (.slice none 0 0), .v (.int .i64 1)] (by kernel_rfl) rfl S ⟨vfun [.slice none 0 0, .slice none 0 0], rfl, S.below rfl, vfun_one [.slice none 0 0, .slice none 0 0] ⟨rfl, rfl, trivial⟩, ((HeldIn.true fun _ => ⟨_, _, rfl, Nat.le_refl _, SlAt.nil⟩).and ((HeldIn.true fun _ => ⟨_, _, rfl, Nat.le_refl _, SlAt.nil⟩).and (HeldIn.true fun _ => trivial)))⟩
  · have h := bif_f hb1 h
    refine wp_skip ?_
    refine out_then_normal ?_
    refine wp_seq ?_
    obtain ⟨r2, e2, h⟩ := bind_some h
    refine sym_seq lay_ok mixed [(1, { res := .v (.bool r2) })] [1, 2, 3, 6, 7, 18] [0] (⟨[(1, .sl 0), (2, .v (.int .i64 limit)), (3, .own 0 0), (6, .v (.slice none 0 0)), (7, .v (.slice none 0 0)), (18, .v (.bool (!r2)))], ⟨[(0, .blk 25 [.v (.int .i64 first.flow.lo), .v (.int .i64 first.flow.hi), .v (.int .i64 first.warm.lo), .v (.int .i64 first.warm.hi)])], (stream_Warm_R l), []⟩⟩) [.call ⟨[], (stream_Warm_R l), []⟩ 38 [.v (.int .i64 limit)] (.v (.bool r2))] S (by kernel_rfl) (by kernel_rfl) (by kernel_rfl) ⟨⟨enters_38, fun _ W _ hm => stream_validLimit_ok limit W r2 e2⟩, trivial⟩ ?_
    clear S; intro E a w S
    refine sym_if_last (b := (!r2)) S rfl (fun hb2 => ?_) (fun hb2 => ?_)
    · have h := bif_t hb2 h
      refine sym_seq lay_ok mixed [] [6, 7, 8] [] (⟨[(6, .v (.slice none 0 0)), (7, .v (.slice none 0 0)), (8, .v (.int .i64 2))], ⟨[], (stream_Warm_R l), []⟩⟩) [] S (by kernel_rfl) (by kernel_rfl) (by kernel_rfl) trivial ?_
      clear S; intro E a w S
      refine wp_ret ?_
      refine out_then_ret ?_
      have h := Option.some.inj h
      subst h
      exact sym_ret lay_ok [.v (.slice none 0 0), .v (.slice none 0 0), .v (.int .i64 2)] (by kernel_rfl) rfl S ⟨vfun [.slice none 0 0, .slice none 0 0], rfl, S.below rfl, vfun_one [.slice none 0 0, .slice none 0 0] ⟨rfl, rfl, trivial⟩, ((HeldIn.true fun _ => ⟨_, _, rfl, Nat.le_refl _, SlAt.nil⟩).and ((HeldIn.true fun _ => ⟨_, _, rfl, Nat.le_refl _, SlAt.nil⟩).and (HeldIn.true fun _ => trivial)))⟩
    · have h := bif_f hb2 h
      refine wp_skip ?_
      refine out_then_normal ?_
      obtain ⟨r3, e3, h⟩ := bind_some h
      refine sym_seq lay_ok mixed [(2, { g := 1, res := .tup [.ltr 1 0, .v (.int .i64 r3.2.1), .v (.int .i64 r3.2.2)], hx := some (SlicesAre 0 [⟨r3.1.length, 4, fun i => [.int .i64 (((r3.1.getD i default).flow).lo), .int .i64 (((r3.1.getD i default).flow).hi), .int .i64 (((r3.1.getD i default).warm).lo), .int .i64 (((r3.1.getD i default).warm).hi)]⟩]) })] [2, 6, 7, 9, 8] [1] (⟨[(2, .v (.int .i64 limit)), (6, .v (.slice none 0 0)), (7, .v (.slice none 0 0)), (9, .ltr 1 0), (8, .v (.int .i64 r3.2.2))], ⟨[(1, .held (SlicesAre 0 [⟨r3.1.length, 4, fun i => [.int .i64 (((r3.1.getD i default).flow).lo), .int .i64 (((r3.1.getD i default).flow).hi), .int .i64 (((r3.1.getD i default).warm).lo), .int .i64 (((r3.1.getD i default).warm).hi)]⟩]))], (stream_Warm_R l), []⟩⟩) [.callx ⟨[], (stream_Warm_R l), []⟩ 1 13 [.agg [.v (.int .i64 first.flow.lo), .v (.int .i64 first.flow.hi), .v (.int .i64 first.warm.lo), .v (.int .i64 first.warm.hi)], .sl 0] (.tup [.ltr 1 0, .v (.int .i64 r3.2.1), .v (.int .i64 r3.2.2)]) (SlicesAre 0 [⟨r3.1.length, 4, fun i => [.int .i64 (((r3.1.getD i default).flow).lo), .int .i64 (((r3.1.getD i default).flow).hi), .int .i64 (((r3.1.getD i default).warm).lo), .int .i64 (((r3.1.getD i default).warm).hi)]⟩])] S (by kernel_rfl) (by kernel_rfl) (by kernel_rfl) ⟨⟨enters_13, fun E W _ hm => by obtain ⟨A0, c0, q0, l0, s0, _⟩ := Mem.sl hm (s := 0) rfl; simp only [SV.vals, SV.val, q0]; exact ((stream_Flow_ok (MWater.mk (MSpan.mk first.flow.lo first.flow.hi) (MSpan.mk first.warm.lo first.warm.hi)) l W A0 c0 l0 s0 r3 e3).mono fun e w' hx => by obtain ⟨v, h1, h2, h3, h4⟩ := hx; exact ⟨v, h1, h2, h3, h4.mono fun _ _ h => .inl h⟩)⟩, trivial⟩ ?_
      clear S; intro E a w S
      obtain ⟨E, S⟩ := St.read 1 0 1001 ⟨r3.1.length, 4, fun i => [.int .i64 (((r3.1.getD i default).flow).lo), .int .i64 (((r3.1.getD i default).flow).hi), .int .i64 (((r3.1.getD i default).warm).lo), .int .i64 (((r3.1.getD i default).warm).hi)]⟩ (⟨[(2, .v (.int .i64 limit)), (6, .v (.slice none 0 0)), (7, .v (.slice none 0 0)), (9, .sl 1001), (8, .v (.int .i64 r3.2.2))], ⟨[(1, .held (SlicesAre 0 [⟨r3.1.length, 4, fun i => [.int .i64 (((r3.1.getD i default).flow).lo), .int .i64 (((r3.1.getD i default).flow).hi), .int .i64 (((r3.1.getD i default).warm).lo), .int .i64 (((r3.1.getD i default).warm).hi)]⟩]))], ((1001, ⟨r3.1.length, 4, fun i => [.int .i64 (((r3.1.getD i default).flow).lo), .int .i64 (((r3.1.getD i default).flow).hi), .int .i64 (((r3.1.getD i default).warm).lo), .int .i64 (((r3.1.getD i default).warm).hi)]⟩) :: (stream_Warm_R l)), []⟩⟩) rfl (fun v w h => h.1) (by intro _ h; cases h) (by kernel_rfl) (by kernel_rfl) S
      refine wp_seq ?_
      refine sym_seq lay_ok mixed [] [2, 6, 7, 9, 8, 27] [] (⟨[(2, .v (.int .i64 limit)), (6, .v (.slice none 0 0)), (7, .v (.slice none 0 0)), (9, .sl 1001), (8, .v (.int .i64 r3.2.2)), (27, .v (.bool (r3.2.2 != 0)))], ⟨[], ((1001, ⟨r3.1.length, 4, fun i => [.int .i64 (((r3.1.getD i default).flow).lo), .int .i64 (((r3.1.getD i default).flow).hi), .int .i64 (((r3.1.getD i default).warm).lo), .int .i64 (((r3.1.getD i default).warm).hi)]⟩) :: (stream_Warm_R l)), []⟩⟩) [] S (by kernel_rfl) (by kernel_rfl) (by kernel_rfl) trivial ?_
      clear S; intro E a w S
      refine sym_if_last (b := (r3.2.2 != 0)) S rfl (fun hb3 => ?_) (fun hb3 => ?_)
      · have h := bif_t hb3 h
        refine sym_seq lay_ok mixed [] [6, 7, 8] [] (⟨[(6, .v (.slice none 0 0)), (7, .v (.slice none 0 0)), (8, .v (.int .i64 r3.2.2))], ⟨[], ((1001, ⟨r3.1.length, 4, fun i => [.int .i64 (((r3.1.getD i default).flow).lo), .int .i64 (((r3.1.getD i default).flow).hi), .int .i64 (((r3.1.getD i default).warm).lo), .int .i64 (((r3.1.getD i default).warm).hi)]⟩) :: (stream_Warm_R l)), []⟩⟩) [] S (by kernel_rfl) (by kernel_rfl) (by kernel_rfl) trivial ?_
        clear S; intro E a w S
        refine wp_ret ?_
        refine out_then_ret ?_
        have h := Option.some.inj h
        subst h
        exact sym_ret lay_ok [.v (.slice none 0 0), .v (.slice none 0 0), .v (.int .i64 r3.2.2)] (by kernel_rfl) rfl S ⟨vfun [.slice none 0 0, .slice none 0 0], rfl, S.below rfl, vfun_one [.slice none 0 0, .slice none 0 0] ⟨rfl, rfl, trivial⟩, ((HeldIn.true fun _ => ⟨_, _, rfl, Nat.le_refl _, SlAt.nil⟩).and ((HeldIn.true fun _ => ⟨_, _, rfl, Nat.le_refl _, SlAt.nil⟩).and (HeldIn.true fun _ => trivial)))⟩
      · have h := bif_f hb3 h
        refine wp_skip ?_
        refine out_then_normal ?_
        refine wp_seq ?_
        refine sym_seq lay_ok mixed [] [2, 6, 7, 29, 30, 31] [] (⟨[(2, .v (.int .i64 limit)), (6, .v (.slice none 0 0)), (7, .v (.slice none 0 0)), (29, .sl 1001), (30, .v (.int .i64 ((r3.1.length : Nat) : Int))), (31, .v (.int .i64 0))], ⟨[], ((1001, ⟨r3.1.length, 4, fun i => [.int .i64 (((r3.1.getD i default).flow).lo), .int .i64 (((r3.1.getD i default).flow).hi), .int .i64 (((r3.1.getD i default).warm).lo), .int .i64 (((r3.1.getD i default).warm).hi)]⟩) :: (stream_Warm_R l)), []⟩⟩) [] S (by kernel_rfl) (by kernel_rfl) (by kernel_rfl) trivial ?_
        clear S; intro E a w S
        have S := S.nilgr 0 3 1
        have S := S.reslot (t := 6) (sv' := .gr 0) rfl (by simp [SV.val, SV.subG, Env.updG_same])
        obtain ⟨E, S⟩ : ∃ E, St ⟨W, noC, Go.Proofs.Try.f15.ntmps, [], allR, noρ, (envOf [(0, ⟨A0, l.length, c0, 9⟩)]).sl, (envOf [(0, ⟨A0, l.length, c0, 9⟩)]).x⟩ (⟨[(2, .v (.int .i64 limit)), (6, .gr 0), (7, .v (.slice none 0 0)), (29, .sl 1001), (30, .v (.int .i64 ((r3.1.length : Nat) : Int))), (31, .v (.int .i64 0))], ⟨[], ((1001, ⟨r3.1.length, 4, fun i => [.int .i64 (((r3.1.getD i default).flow).lo), .int .i64 (((r3.1.getD i default).flow).hi), .int .i64 (((r3.1.getD i default).warm).lo), .int .i64 (((r3.1.getD i default).warm).hi)]⟩) :: (stream_Warm_R l)), [(0, ⟨3, 1, ([] : List Int).length, ([] : List Int).flatMap (fun x => [.int .i64 x])⟩)]⟩⟩) E a w := ⟨_, St.pickG S [2, 6, 7, 29, 30, 31] [] [0] (⟨[(2, .v (.int .i64 limit)), (6, .gr 0), (7, .v (.slice none 0 0)), (29, .sl 1001), (30, .v (.int .i64 ((r3.1.length : Nat) : Int))), (31, .v (.int .i64 0))], ⟨[], ((1001, ⟨r3.1.length, 4, fun i => [.int .i64 (((r3.1.getD i default).flow).lo), .int .i64 (((r3.1.getD i default).flow).hi), .int .i64 (((r3.1.getD i default).warm).lo), .int .i64 (((r3.1.getD i default).warm).hi)]⟩) :: (stream_Warm_R l)), [(0, ⟨3, 1, ([] : List Int).length, ([] : List Int).flatMap (fun x => [.int .i64 x])⟩)]⟩⟩) (by kernel_rfl)⟩
        have S := S.nilgr 1 3 1
        have S := S.reslot (t := 7) (sv' := .gr 1) rfl (by simp [SV.val, SV.subG, Env.updG_same])
        obtain ⟨E, S⟩ : ∃ E, St ⟨W, noC, Go.Proofs.Try.f15.ntmps, [], allR, noρ, (envOf [(0, ⟨A0, l.length, c0, 9⟩)]).sl, (envOf [(0, ⟨A0, l.length, c0, 9⟩)]).x⟩ (⟨[(2, .v (.int .i64 limit)), (6, .gr 0), (7, .gr 1), (29, .sl 1001), (30, .v (.int .i64 ((r3.1.length : Nat) : Int))), (31, .v (.int .i64 0))], ⟨[], ((1001, ⟨r3.1.length, 4, fun i => [.int .i64 (((r3.1.getD i default).flow).lo), .int .i64 (((r3.1.getD i default).flow).hi), .int .i64 (((r3.1.getD i default).warm).lo), .int .i64 (((r3.1.getD i default).warm).hi)]⟩) :: (stream_Warm_R l)), [(0, ⟨3, 1, ([] : List Int).length, ([] : List Int).flatMap (fun x => [.int .i64 x])⟩), (1, ⟨3, 1, ([] : List Int).length, ([] : List Int).flatMap (fun x => [.int .i64 x])⟩)]⟩⟩) E a w := ⟨_, St.pickG S [2, 6, 7, 29, 30, 31] [] [0, 1] (⟨[(2, .v (.int .i64 limit)), (6, .gr 0), (7, .gr 1), (29, .sl 1001), (30, .v (.int .i64 ((r3.1.length : Nat) : Int))), (31, .v (.int .i64 0))], ⟨[], ((1001, ⟨r3.1.length, 4, fun i => [.int .i64 (((r3.1.getD i default).flow).lo), .int .i64 (((r3.1.getD i default).flow).hi), .int .i64 (((r3.1.getD i default).warm).lo), .int .i64 (((r3.1.getD i default).warm).hi)]⟩) :: (stream_Warm_R l)), [(0, ⟨3, 1, ([] : List Int).length, ([] : List Int).flatMap (fun x => [.int .i64 x])⟩), (1, ⟨3, 1, ([] : List Int).length, ([] : List Int).flatMap (fun x => [.int .i64 x])⟩)]⟩⟩) (by kernel_rfl)⟩
        obtain ⟨lr1, e4, hp1⟩ := bind_some h
        clear h
        refine sym_block_last (G := fun a w => ∃ E, ∃ x1 : List Int × List Int, stream_Warm_k1 x1 = some res ∧ St ⟨W, noC, Go.Proofs.Try.f15.ntmps, [], allR, noρ, (envOf [(0, ⟨A0, l.length, c0, 9⟩)]).sl, (envOf [(0, ⟨A0, l.length, c0, 9⟩)]).x⟩ (⟨[(6, .gr 0), (7, .gr 1)], ⟨[], ((1001, ⟨r3.1.length, 4, fun i => [.int .i64 (((r3.1.getD i default).flow).lo), .int .i64 (((r3.1.getD i default).flow).hi), .int .i64 (((r3.1.getD i default).warm).lo), .int .i64 (((r3.1.getD i default).warm).hi)]⟩) :: (stream_Warm_R l)), [(0, ⟨3, 1, x1.1.length, x1.1.flatMap (fun x => [.int .i64 x])⟩), (1, ⟨3, 1, x1.2.length, x1.2.flatMap (fun x => [.int .i64 x])⟩)]⟩⟩) E a w) ?_ ?_
        · refine wp_loop_rounds fuel ?_
          refine sym_rounds (F := fun n b1 => stream_Warm_l1 limit r3 n b1 = some lr1) (H := fun b1 => ⟨[(2, .v (.int .i64 limit)), (6, .gr 0), (7, .gr 1), (29, .sl 1001), (30, .v (.int .i64 ((r3.1.length : Nat) : Int))), (31, .v (.int .i64 b1.1))], ⟨[], ((1001, ⟨r3.1.length, 4, fun i => [.int .i64 (((r3.1.getD i default).flow).lo), .int .i64 (((r3.1.getD i default).flow).hi), .int .i64 (((r3.1.getD i default).warm).lo), .int .i64 (((r3.1.getD i default).warm).hi)]⟩) :: (stream_Warm_R l)), [(0, ⟨3, 1, b1.2.1.length, b1.2.1.flatMap (fun x => [.int .i64 x])⟩), (1, ⟨3, 1, b1.2.2.length, b1.2.2.flatMap (fun x => [.int .i64 x])⟩)]⟩⟩) (0, ([] : List Int), ([] : List Int)) (fun b hb => by have hb : none = some lr1 := hb; cases hb) ?_ _ _ _ _ e4 (St.cast (P := Go.Proofs.Try.prog) [] [] [2, 6, 7, 29, 30, 31] [] [1001, 0] _ [] (by kernel_rfl) trivial S)
          clear e4 S
          intro n b1 E a w h ih S
          rw [stream_Warm_l1] at h
          refine sym_seq lay_ok mixed [] [2, 6, 7, 29, 30, 31, 32] [] (⟨[(2, .v (.int .i64 limit)), (6, .gr 0), (7, .gr 1), (29, .sl 1001), (30, .v (.int .i64 ((r3.1.length : Nat) : Int))), (31, .v (.int .i64 b1.1)), (32, .v (.bool (decide (b1.1 < ((r3.1.length : Nat) : Int)))))], ⟨[], ((1001, ⟨r3.1.length, 4, fun i => [.int .i64 (((r3.1.getD i default).flow).lo), .int .i64 (((r3.1.getD i default).flow).hi), .int .i64 (((r3.1.getD i default).warm).lo), .int .i64 (((r3.1.getD i default).warm).hi)]⟩) :: (stream_Warm_R l)), [(0, ⟨3, 1, b1.2.1.length, b1.2.1.flatMap (fun x => [.int .i64 x])⟩), (1, ⟨3, 1, b1.2.2.length, b1.2.2.flatMap (fun x => [.int .i64 x])⟩)]⟩⟩) [] S (by kernel_rfl) (by kernel_rfl) (by kernel_rfl) trivial ?_
          clear S; intro E a w S
          refine sym_if (b := decide (b1.1 < ((r3.1.length : Nat) : Int))) S rfl (fun hb4 => ?_) (fun hb4 => ?_)
          · have h := bif_t hb4 h
            refine wp_skip ?_
            refine out_then_normal ?_
            refine wp_seq ?_
            refine wp_block ?_
            obtain ⟨g1, h⟩ := grd_some h
            refine sym_seq lay_ok mixed [(3, { g := 6 })] [2, 6, 7, 29, 30, 31, 12, 11] [6] (⟨[(2, .v (.int .i64 limit)), (6, .gr 0), (7, .gr 1), (29, .sl 1001), (30, .v (.int .i64 ((r3.1.length : Nat) : Int))), (31, .v (.int .i64 b1.1)), (12, .own 6 0), (11, .v (.int .i64 b1.1))], ⟨[(6, .blk 25 [.v (.int .i64 (((r3.1.getD (Int.toNat b1.1) default).flow).lo)), .v (.int .i64 (((r3.1.getD (Int.toNat b1.1) default).flow).hi)), .v (.int .i64 (((r3.1.getD (Int.toNat b1.1) default).warm).lo)), .v (.int .i64 (((r3.1.getD (Int.toNat b1.1) default).warm).hi))])], ((1001, ⟨r3.1.length, 4, fun i => [.int .i64 (((r3.1.getD i default).flow).lo), .int .i64 (((r3.1.getD i default).flow).hi), .int .i64 (((r3.1.getD i default).warm).lo), .int .i64 (((r3.1.getD i default).warm).hi)]⟩) :: (stream_Warm_R l)), [(0, ⟨3, 1, b1.2.1.length, b1.2.1.flatMap (fun x => [.int .i64 x])⟩), (1, ⟨3, 1, b1.2.2.length, b1.2.2.flatMap (fun x => [.int .i64 x])⟩)]⟩⟩) [.idx b1.1 r3.1.length, .idx b1.1 r3.1.length] S (by kernel_rfl) (by kernel_rfl) (by kernel_rfl) ⟨g1, g1, trivial⟩ ?_
            clear S; intro E a w S
            refine wp_seq ?_
            refine sym_seq lay_ok mixed [] [2, 6, 7, 29, 30, 31, 12, 11, 40] [6] (⟨[(2, .v (.int .i64 limit)), (6, .gr 0), (7, .gr 1), (29, .sl 1001), (30, .v (.int .i64 ((r3.1.length : Nat) : Int))), (31, .v (.int .i64 b1.1)), (12, .own 6 0), (11, .v (.int .i64 b1.1)), (40, .v (.bool (decide (limit < (((r3.1.getD (Int.toNat b1.1) default).warm).lo)))))], ⟨[(6, .blk 25 [.v (.int .i64 (((r3.1.getD (Int.toNat b1.1) default).flow).lo)), .v (.int .i64 (((r3.1.getD (Int.toNat b1.1) default).flow).hi)), .v (.int .i64 (((r3.1.getD (Int.toNat b1.1) default).warm).lo)), .v (.int .i64 (((r3.1.getD (Int.toNat b1.1) default).warm).hi))])], ((1001, ⟨r3.1.length, 4, fun i => [.int .i64 (((r3.1.getD i default).flow).lo), .int .i64 (((r3.1.getD i default).flow).hi), .int .i64 (((r3.1.getD i default).warm).lo), .int .i64 (((r3.1.getD i default).warm).hi)]⟩) :: (stream_Warm_R l)), [(0, ⟨3, 1, b1.2.1.length, b1.2.1.flatMap (fun x => [.int .i64 x])⟩), (1, ⟨3, 1, b1.2.2.length, b1.2.2.flatMap (fun x => [.int .i64 x])⟩)]⟩⟩) [] S (by kernel_rfl) (by kernel_rfl) (by kernel_rfl) trivial ?_
            clear S; intro E a w S
            obtain ⟨j1, e5, h⟩ := bind_some h
            refine sym_meet_last (b := decide (limit < (((r3.1.getD (Int.toNat b1.1) default).warm).lo))) (⟨[(2, .v (.int .i64 limit)), (7, .gr 1), (29, .sl 1001), (30, .v (.int .i64 ((r3.1.length : Nat) : Int))), (31, .v (.int .i64 b1.1)), (12, .own 6 0), (11, .v (.int .i64 b1.1)), (6, .gr 0)], ⟨[(6, .blk 25 [.v (.int .i64 (((r3.1.getD (Int.toNat b1.1) default).flow).lo)), .v (.int .i64 (((r3.1.getD (Int.toNat b1.1) default).flow).hi)), .v (.int .i64 (((r3.1.getD (Int.toNat b1.1) default).warm).lo)), .v (.int .i64 (((r3.1.getD (Int.toNat b1.1) default).warm).hi))])], ((1001, ⟨r3.1.length, 4, fun i => [.int .i64 (((r3.1.getD i default).flow).lo), .int .i64 (((r3.1.getD i default).flow).hi), .int .i64 (((r3.1.getD i default).warm).lo), .int .i64 (((r3.1.getD i default).warm).hi)]⟩) :: (stream_Warm_R l)), [(0, ⟨3, 1, j1.length, j1.flatMap (fun x => [.int .i64 x])⟩), (1, ⟨3, 1, b1.2.2.length, b1.2.2.flatMap (fun x => [.int .i64 x])⟩)]⟩⟩) S rfl (fun hb5 => ?_) (fun hb5 => ?_) ?_
            · clear h; have h := bif_t hb5 e5
              obtain ⟨g2, h⟩ := grd_some h
              refine sym_open_last ?_
              refine sym_runP lay_ok [(2, { g := 8 })] 0 3 [2, 6, 7, 29, 30, 31, 12, 11, 41, 43] [6, 8] (⟨[(2, .v (.int .i64 limit)), (6, .gr 0), (7, .gr 1), (29, .sl 1001), (30, .v (.int .i64 ((r3.1.length : Nat) : Int))), (31, .v (.int .i64 b1.1)), (12, .own 6 0), (11, .v (.int .i64 b1.1)), (41, .gr 0), (43, .row 8 0 1 1)], ⟨[(6, .blk 25 [.v (.int .i64 (((r3.1.getD (Int.toNat b1.1) default).flow).lo)), .v (.int .i64 (((r3.1.getD (Int.toNat b1.1) default).flow).hi)), .v (.int .i64 (((r3.1.getD (Int.toNat b1.1) default).warm).lo)), .v (.int .i64 (((r3.1.getD (Int.toNat b1.1) default).warm).hi))]), (8, .blk 3 [.v (.int .i64 b1.1)])], ((1001, ⟨r3.1.length, 4, fun i => [.int .i64 (((r3.1.getD i default).flow).lo), .int .i64 (((r3.1.getD i default).flow).hi), .int .i64 (((r3.1.getD i default).warm).lo), .int .i64 (((r3.1.getD i default).warm).hi)]⟩) :: (stream_Warm_R l)), [(0, ⟨3, 1, b1.2.1.length, b1.2.1.flatMap (fun x => [.int .i64 x])⟩), (1, ⟨3, 1, b1.2.2.length, b1.2.2.flatMap (fun x => [.int .i64 x])⟩)]⟩⟩) [] S (by kernel_rfl) (by kernel_rfl) trivial ?_
              clear S; intro E a w S
              refine sym_append lay_ok rfl (.tmp 41) (.tmp 43) 33 rfl rfl S 0 8 0 1 1 3 [.v (.int .i64 b1.1)] ⟨3, 1, b1.2.1.length, b1.2.1.flatMap (fun x => [.int .i64 x])⟩ ⟨.int .i64, 1, [.int .i64 0], false, 8⟩ ⟨.sli 3 1, 1, [.slice none 0 0], false, 24⟩ rfl rfl rfl rfl rfl rfl rfl rfl (show 0 < 1 by decide) rfl rfl (fun e he => by cases he; exact Nat.lt_of_succ_le (Nat.le_of_ble_eq_true rfl)) ⟨3, 1, (b1.2.1 ++ [b1.1]).length, (b1.2.1 ++ [b1.1]).flatMap (fun x => [.int .i64 x])⟩ rfl rfl (by simp) (fun E => by simp [SV.vals, SV.val]) (Nat.le_trans g2 (by decide)) (show (b1.2.1.length + 1) * 8 ≤ 140737488355328 by have := g2; omega) rfl ?_
              clear S; intro v0 E a w S; have S := St.pickG S [2, 7, 29, 30, 31, 12, 11, 43, 44] [6, 8] [0, 1] (⟨[(2, .v (.int .i64 limit)), (7, .gr 1), (29, .sl 1001), (30, .v (.int .i64 ((r3.1.length : Nat) : Int))), (31, .v (.int .i64 b1.1)), (12, .own 6 0), (11, .v (.int .i64 b1.1)), (43, .row 8 0 1 1), (44, .gr 0)], ⟨[(6, .blk 25 [.v (.int .i64 (((r3.1.getD (Int.toNat b1.1) default).flow).lo)), .v (.int .i64 (((r3.1.getD (Int.toNat b1.1) default).flow).hi)), .v (.int .i64 (((r3.1.getD (Int.toNat b1.1) default).warm).lo)), .v (.int .i64 (((r3.1.getD (Int.toNat b1.1) default).warm).hi))]), (8, .blk 3 [.v (.int .i64 b1.1)])], ((1001, ⟨r3.1.length, 4, fun i => [.int .i64 (((r3.1.getD i default).flow).lo), .int .i64 (((r3.1.getD i default).flow).hi), .int .i64 (((r3.1.getD i default).warm).lo), .int .i64 (((r3.1.getD i default).warm).hi)]⟩) :: (stream_Warm_R l)), [(0, ⟨3, 1, (b1.2.1 ++ [b1.1]).length, (b1.2.1 ++ [b1.1]).flatMap (fun x => [.int .i64 x])⟩), (1, ⟨3, 1, b1.2.2.length, b1.2.2.flatMap (fun x => [.int .i64 x])⟩)]⟩⟩) (by kernel_rfl)
              refine sym_runP lay_ok [] 4 1 [2, 7, 29, 30, 31, 12, 11, 6] [6] (⟨[(2, .v (.int .i64 limit)), (7, .gr 1), (29, .sl 1001), (30, .v (.int .i64 ((r3.1.length : Nat) : Int))), (31, .v (.int .i64 b1.1)), (12, .own 6 0), (11, .v (.int .i64 b1.1)), (6, .gr 0)], ⟨[(6, .blk 25 [.v (.int .i64 (((r3.1.getD (Int.toNat b1.1) default).flow).lo)), .v (.int .i64 (((r3.1.getD (Int.toNat b1.1) default).flow).hi)), .v (.int .i64 (((r3.1.getD (Int.toNat b1.1) default).warm).lo)), .v (.int .i64 (((r3.1.getD (Int.toNat b1.1) default).warm).hi))])], ((1001, ⟨r3.1.length, 4, fun i => [.int .i64 (((r3.1.getD i default).flow).lo), .int .i64 (((r3.1.getD i default).flow).hi), .int .i64 (((r3.1.getD i default).warm).lo), .int .i64 (((r3.1.getD i default).warm).hi)]⟩) :: (stream_Warm_R l)), [(0, ⟨3, 1, (b1.2.1 ++ [b1.1]).length, (b1.2.1 ++ [b1.1]).flatMap (fun x => [.int .i64 x])⟩), (1, ⟨3, 1, b1.2.2.length, b1.2.2.flatMap (fun x => [.int .i64 x])⟩)]⟩⟩) [] S (by kernel_rfl) (by kernel_rfl) trivial ?_
              clear S; intro E a w S
              refine sym_done rfl ?_
              have S := St.pickG S [2, 7, 29, 30, 31, 12, 11, 6] [6] [0, 1] (⟨[(2, .v (.int .i64 limit)), (7, .gr 1), (29, .sl 1001), (30, .v (.int .i64 ((r3.1.length : Nat) : Int))), (31, .v (.int .i64 b1.1)), (12, .own 6 0), (11, .v (.int .i64 b1.1)), (6, .gr 0)], ⟨[(6, .blk 25 [.v (.int .i64 (((r3.1.getD (Int.toNat b1.1) default).flow).lo)), .v (.int .i64 (((r3.1.getD (Int.toNat b1.1) default).flow).hi)), .v (.int .i64 (((r3.1.getD (Int.toNat b1.1) default).warm).lo)), .v (.int .i64 (((r3.1.getD (Int.toNat b1.1) default).warm).hi))])], ((1001, ⟨r3.1.length, 4, fun i => [.int .i64 (((r3.1.getD i default).flow).lo), .int .i64 (((r3.1.getD i default).flow).hi), .int .i64 (((r3.1.getD i default).warm).lo), .int .i64 (((r3.1.getD i default).warm).hi)]⟩) :: (stream_Warm_R l)), [(0, ⟨3, 1, (b1.2.1 ++ [b1.1]).length, (b1.2.1 ++ [b1.1]).flatMap (fun x => [.int .i64 x])⟩), (1, ⟨3, 1, b1.2.2.length, b1.2.2.flatMap (fun x => [.int .i64 x])⟩)]⟩⟩) (by kernel_rfl)
              have hj := Option.some.inj h
              subst hj
              refine out_then_normal ?_
              exact ⟨_, St.cast (P := Go.Proofs.Try.prog) [] [] [2, 7, 29, 30, 31, 12, 11, 6] [6] [1001, 0] _ [] (by kernel_rfl) trivial S⟩
            · clear h; have h := bif_f hb5 e5
              refine wp_skip ?_
              have hj := Option.some.inj h
              subst hj
              refine out_then_normal ?_
              exact ⟨_, St.cast (P := Go.Proofs.Try.prog) [] [] [2, 7, 29, 30, 31, 12, 11, 6] [6] [1001, 0] _ [] (by kernel_rfl) trivial S⟩
            clear S; intro E a w S
            refine out_then_normal ?_
            refine sym_seq lay_ok mixed [] [2, 7, 29, 30, 31, 11, 6, 49] [] (⟨[(2, .v (.int .i64 limit)), (7, .gr 1), (29, .sl 1001), (30, .v (.int .i64 ((r3.1.length : Nat) : Int))), (31, .v (.int .i64 b1.1)), (11, .v (.int .i64 b1.1)), (6, .gr 0), (49, .v (.bool (decide (limit < (((r3.1.getD (Int.toNat b1.1) default).warm).hi)))))], ⟨[], ((1001, ⟨r3.1.length, 4, fun i => [.int .i64 (((r3.1.getD i default).flow).lo), .int .i64 (((r3.1.getD i default).flow).hi), .int .i64 (((r3.1.getD i default).warm).lo), .int .i64 (((r3.1.getD i default).warm).hi)]⟩) :: (stream_Warm_R l)), [(0, ⟨3, 1, j1.length, j1.flatMap (fun x => [.int .i64 x])⟩), (1, ⟨3, 1, b1.2.2.length, b1.2.2.flatMap (fun x => [.int .i64 x])⟩)]⟩⟩) [] S (by kernel_rfl) (by kernel_rfl) (by kernel_rfl) trivial ?_
            clear S; intro E a w S
            refine sym_if_last (b := decide (limit < (((r3.1.getD (Int.toNat b1.1) default).warm).hi))) S rfl (fun hb6 => ?_) (fun hb6 => ?_)
            · have h := bif_t hb6 h
              obtain ⟨g3, h⟩ := grd_some h
              refine sym_open_last ?_
              refine sym_runP lay_ok [(2, { g := 9 })] 0 3 [2, 7, 29, 30, 31, 6, 50, 52] [9] (⟨[(2, .v (.int .i64 limit)), (7, .gr 1), (29, .sl 1001), (30, .v (.int .i64 ((r3.1.length : Nat) : Int))), (31, .v (.int .i64 b1.1)), (6, .gr 0), (50, .gr 1), (52, .row 9 0 1 1)], ⟨[(9, .blk 3 [.v (.int .i64 b1.1)])], ((1001, ⟨r3.1.length, 4, fun i => [.int .i64 (((r3.1.getD i default).flow).lo), .int .i64 (((r3.1.getD i default).flow).hi), .int .i64 (((r3.1.getD i default).warm).lo), .int .i64 (((r3.1.getD i default).warm).hi)]⟩) :: (stream_Warm_R l)), [(0, ⟨3, 1, j1.length, j1.flatMap (fun x => [.int .i64 x])⟩), (1, ⟨3, 1, b1.2.2.length, b1.2.2.flatMap (fun x => [.int .i64 x])⟩)]⟩⟩) [] S (by kernel_rfl) (by kernel_rfl) trivial ?_
              clear S; intro E a w S
              refine sym_append lay_ok rfl (.tmp 50) (.tmp 52) 33 rfl rfl S 1 9 0 1 1 3 [.v (.int .i64 b1.1)] ⟨3, 1, b1.2.2.length, b1.2.2.flatMap (fun x => [.int .i64 x])⟩ ⟨.int .i64, 1, [.int .i64 0], false, 8⟩ ⟨.sli 3 1, 1, [.slice none 0 0], false, 24⟩ rfl rfl rfl rfl rfl rfl rfl rfl (show 0 < 1 by decide) rfl rfl (fun e he => by cases he; exact Nat.lt_of_succ_le (Nat.le_of_ble_eq_true rfl)) ⟨3, 1, (b1.2.2 ++ [b1.1]).length, (b1.2.2 ++ [b1.1]).flatMap (fun x => [.int .i64 x])⟩ rfl rfl (by simp) (fun E => by simp [SV.vals, SV.val]) (Nat.le_trans g3 (by decide)) (show (b1.2.2.length + 1) * 8 ≤ 140737488355328 by have := g3; omega) rfl ?_
              clear S; intro v0 E a w S; have S := St.pickG S [2, 29, 30, 31, 6, 52, 53] [9] [0, 1] (⟨[(2, .v (.int .i64 limit)), (29, .sl 1001), (30, .v (.int .i64 ((r3.1.length : Nat) : Int))), (31, .v (.int .i64 b1.1)), (6, .gr 0), (52, .row 9 0 1 1), (53, .gr 1)], ⟨[(9, .blk 3 [.v (.int .i64 b1.1)])], ((1001, ⟨r3.1.length, 4, fun i => [.int .i64 (((r3.1.getD i default).flow).lo), .int .i64 (((r3.1.getD i default).flow).hi), .int .i64 (((r3.1.getD i default).warm).lo), .int .i64 (((r3.1.getD i default).warm).hi)]⟩) :: (stream_Warm_R l)), [(0, ⟨3, 1, j1.length, j1.flatMap (fun x => [.int .i64 x])⟩), (1, ⟨3, 1, (b1.2.2 ++ [b1.1]).length, (b1.2.2 ++ [b1.1]).flatMap (fun x => [.int .i64 x])⟩)]⟩⟩) (by kernel_rfl)
              refine sym_runP lay_ok [] 4 1 [2, 29, 30, 31, 6, 7] [] (⟨[(2, .v (.int .i64 limit)), (29, .sl 1001), (30, .v (.int .i64 ((r3.1.length : Nat) : Int))), (31, .v (.int .i64 b1.1)), (6, .gr 0), (7, .gr 1)], ⟨[], ((1001, ⟨r3.1.length, 4, fun i => [.int .i64 (((r3.1.getD i default).flow).lo), .int .i64 (((r3.1.getD i default).flow).hi), .int .i64 (((r3.1.getD i default).warm).lo), .int .i64 (((r3.1.getD i default).warm).hi)]⟩) :: (stream_Warm_R l)), [(0, ⟨3, 1, j1.length, j1.flatMap (fun x => [.int .i64 x])⟩), (1, ⟨3, 1, (b1.2.2 ++ [b1.1]).length, (b1.2.2 ++ [b1.1]).flatMap (fun x => [.int .i64 x])⟩)]⟩⟩) [] S (by kernel_rfl) (by kernel_rfl) trivial ?_
              clear S; intro E a w S
              refine sym_done rfl ?_
              have S := St.pickG S [2, 29, 30, 31, 6, 7] [] [0, 1] (⟨[(2, .v (.int .i64 limit)), (29, .sl 1001), (30, .v (.int .i64 ((r3.1.length : Nat) : Int))), (31, .v (.int .i64 b1.1)), (6, .gr 0), (7, .gr 1)], ⟨[], ((1001, ⟨r3.1.length, 4, fun i => [.int .i64 (((r3.1.getD i default).flow).lo), .int .i64 (((r3.1.getD i default).flow).hi), .int .i64 (((r3.1.getD i default).warm).lo), .int .i64 (((r3.1.getD i default).warm).hi)]⟩) :: (stream_Warm_R l)), [(0, ⟨3, 1, j1.length, j1.flatMap (fun x => [.int .i64 x])⟩), (1, ⟨3, 1, (b1.2.2 ++ [b1.1]).length, (b1.2.2 ++ [b1.1]).flatMap (fun x => [.int .i64 x])⟩)]⟩⟩) (by kernel_rfl)
              refine out_block_normal ?_
              refine out_then_normal ?_
              obtain ⟨g4, h⟩ := grd_some h
              refine sym_last lay_ok mixed [] [2, 29, 30, 31, 6, 7] [] (⟨[(2, .v (.int .i64 limit)), (29, .sl 1001), (30, .v (.int .i64 ((r3.1.length : Nat) : Int))), (31, .v (.int .i64 (b1.1 + 1))), (6, .gr 0), (7, .gr 1)], ⟨[], ((1001, ⟨r3.1.length, 4, fun i => [.int .i64 (((r3.1.getD i default).flow).lo), .int .i64 (((r3.1.getD i default).flow).hi), .int .i64 (((r3.1.getD i default).warm).lo), .int .i64 (((r3.1.getD i default).warm).hi)]⟩) :: (stream_Warm_R l)), [(0, ⟨3, 1, j1.length, j1.flatMap (fun x => [.int .i64 x])⟩), (1, ⟨3, 1, (b1.2.2 ++ [b1.1]).length, (b1.2.2 ++ [b1.1]).flatMap (fun x => [.int .i64 x])⟩)]⟩⟩) [.rng .i64 (b1.1 + 1)] S (by kernel_rfl) (by kernel_rfl) (by kernel_rfl) ⟨rngI64 g4, trivial⟩ ?_
              clear S; intro E a w S
              refine out_then_normal ?_
              exact ih ((b1.1 + 1), j1, (b1.2.2 ++ [b1.1])) _ _ _ h (St.cast (P := Go.Proofs.Try.prog) [] [] [2, 6, 7, 29, 30, 31] [] [1001, 0] _ [] (by kernel_rfl) trivial S)
            · have h := bif_f hb6 h
              refine wp_skip ?_
              refine out_block_normal ?_
              refine out_then_normal ?_
              obtain ⟨g5, h⟩ := grd_some h
              refine sym_last lay_ok mixed [] [2, 7, 29, 30, 31, 6] [] (⟨[(2, .v (.int .i64 limit)), (7, .gr 1), (29, .sl 1001), (30, .v (.int .i64 ((r3.1.length : Nat) : Int))), (31, .v (.int .i64 (b1.1 + 1))), (6, .gr 0)], ⟨[], ((1001, ⟨r3.1.length, 4, fun i => [.int .i64 (((r3.1.getD i default).flow).lo), .int .i64 (((r3.1.getD i default).flow).hi), .int .i64 (((r3.1.getD i default).warm).lo), .int .i64 (((r3.1.getD i default).warm).hi)]⟩) :: (stream_Warm_R l)), [(0, ⟨3, 1, j1.length, j1.flatMap (fun x => [.int .i64 x])⟩), (1, ⟨3, 1, b1.2.2.length, b1.2.2.flatMap (fun x => [.int .i64 x])⟩)]⟩⟩) [.rng .i64 (b1.1 + 1)] S (by kernel_rfl) (by kernel_rfl) (by kernel_rfl) ⟨rngI64 g5, trivial⟩ ?_
              clear S; intro E a w S
              refine out_then_normal ?_
              exact ih ((b1.1 + 1), j1, b1.2.2) _ _ _ h (St.cast (P := Go.Proofs.Try.prog) [] [] [2, 6, 7, 29, 30, 31] [] [1001, 0] _ [] (by kernel_rfl) trivial S)
          · have h := bif_f hb4 h
            refine wp_exit ?_
            refine out_then_exit ?_
            refine out_then_exit ?_
            refine out_block_here ?_
            refine out_then_normal ?_
            have hr := Option.some.inj h
            subst hr
            exact ⟨_, (b1.2.1, b1.2.2), hp1, St.cast (P := Go.Proofs.Try.prog) [] [] [6, 7] [] [1001, 0] _ [] (by kernel_rfl) trivial S⟩
        clear e4 S
        rintro a w ⟨E, x1, h, S⟩
        rw [stream_Warm_k1] at h
        refine out_then_normal ?_
        refine sym_seq lay_ok mixed [] [6, 7, 8] [] (⟨[(6, .gr 0), (7, .gr 1), (8, .v (.int .i64 0))], ⟨[], ((1001, ⟨r3.1.length, 4, fun i => [.int .i64 (((r3.1.getD i default).flow).lo), .int .i64 (((r3.1.getD i default).flow).hi), .int .i64 (((r3.1.getD i default).warm).lo), .int .i64 (((r3.1.getD i default).warm).hi)]⟩) :: (stream_Warm_R l)), [(0, ⟨3, 1, x1.1.length, x1.1.flatMap (fun x => [.int .i64 x])⟩), (1, ⟨3, 1, x1.2.length, x1.2.flatMap (fun x => [.int .i64 x])⟩)]⟩⟩) [] S (by kernel_rfl) (by kernel_rfl) (by kernel_rfl) trivial ?_
        clear S; intro E a w S
        refine wp_ret ?_
        have h := Option.some.inj h
        subst h
        exact sym_ret lay_ok [.gr 0, .gr 1, .v (.int .i64 0)] (by kernel_rfl) rfl S ⟨vfun [E.gr 0, E.gr 1], rfl, S.below rfl, vfun_one [E.gr 0, E.gr 1] ⟨(S.gr_one (k := 0) rfl), (S.gr_one (k := 1) rfl), trivial⟩, (((S.mem.gr 0 _ rfl).slice (S.gr_new rfl (k := 0) rfl) 0 (vfun [E.gr 0, E.gr 1]) rfl _ (flat_get (fun x => [.int .i64 x]) 1 (fun _ => rfl) x1.1)).and (((S.mem.gr 1 _ rfl).slice (S.gr_new rfl (k := 1) rfl) 1 (vfun [E.gr 0, E.gr 1]) rfl _ (flat_get (fun x => [.int .i64 x]) 1 (fun _ => rfl) x1.2)).and (HeldIn.true fun _ => trivial)))⟩
def wormtubref05_Warm_R (l : List MPoint) : List (Nat × Q) := [(0, ⟨l.length, 9, fun i => [.int .i64 ((l.getD i default).kind), .int .i64 (((l.getD i default).flow).lo), .int .i64 (((l.getD i default).flow).hi), .int .i64 (((l.getD i default).warm).lo), .int .i64 (((l.getD i default).warm).hi), .int .i64 (((l.getD i default).heat).lo), .int .i64 (((l.getD i default).heat).hi), .int .i64 (((l.getD i default).share).lo), .int .i64 (((l.getD i default).share).hi)]⟩)]
def wormtubref05_Warm_k1  (x1 : List Int × List Int) : Option (List Int × List Int × Int) :=
some (x1.1, x1.2, 0)
def wormtubref05_Warm_l1 (limit : Int) (r3 : (List MWater × Int × Int)) : Nat → (Int × List Int × List Int) → Option (Lp (List Int × List Int) (List Int × List Int × Int))
  | 0, _ => none
  | n + 1, b1 =>
    (bif decide (b1.1 < ((r3.1.length : Nat) : Int)) then
    (grd (((0 : Int) ≤ b1.1 ∧ (b1.1 : Int) < ((r3.1.length : Nat) : Int))) <|
    (bif decide (limit < (((r3.1.getD (Int.toNat b1.1) default).warm).lo)) then
    (grd ((b1.2.1.length + 1 ≤ 1000000)) <|
    some (b1.2.1 ++ [b1.1]))
    else
    (some b1.2.1)).bind fun (j1 : List Int) =>
    (bif decide (limit < (((r3.1.getD (Int.toNat b1.1) default).warm).hi)) then
    (grd ((b1.2.2.length + 1 ≤ 1000000)) <|
    grd (InI64 (b1.1 + 1)) <|
    wormtubref05_Warm_l1 limit r3 n ((b1.1 + 1), j1, (b1.2.2 ++ [b1.1])))
    else
    (grd (InI64 (b1.1 + 1)) <|
    wormtubref05_Warm_l1 limit r3 n ((b1.1 + 1), j1, b1.2.2))))
    else
    (some (Lp.done (b1.2.1, b1.2.2))))
def wormtubref05_Warm (fuel : Nat) (first : MWater) (l : List MPoint) (limit : Int) : Option (List Int × List Int × Int) :=
(wormtubref05_Water (MWater.mk (MSpan.mk first.flow.lo first.flow.hi) (MSpan.mk first.warm.lo first.warm.hi))).bind fun (r1 : Bool) =>
(bif (!r1) then
(some ([], [], 1))
else
((wormtubref05_in limit 0 100000).bind fun (r2 : Bool) =>
(bif (!r2) then
(some ([], [], 2))
else
((wormtubref05_Flow fuel (MWater.mk (MSpan.mk first.flow.lo first.flow.hi) (MSpan.mk first.warm.lo first.warm.hi)) l).bind fun (r3 : (List MWater × Int × Int)) =>
(bif (r3.2.2 != 0) then
(some ([], [], r3.2.2))
else
((wormtubref05_Warm_l1 limit r3 fuel (0, ([] : List Int), ([] : List Int))).bind fun lr1 => lr1.go fun x1 => wormtubref05_Warm_k1 x1))))))
set_option maxRecDepth 100000 in
set_option maxHeartbeats 4000000 in
theorem wormtubref05_Warm_ok (fuel : Nat) (first : MWater) (l : List MPoint) (limit : Int) (W : World) (A0 : Option Addr) (c0 : Nat) (h0 : l.length ≤ c0) (s0 : SlAt W A0 l.length 9 fun i => [.int .i64 ((l.getD i default).kind), .int .i64 (((l.getD i default).flow).lo), .int .i64 (((l.getD i default).flow).hi), .int .i64 (((l.getD i default).warm).lo), .int .i64 (((l.getD i default).warm).hi), .int .i64 (((l.getD i default).heat).lo), .int .i64 (((l.getD i default).heat).hi), .int .i64 (((l.getD i default).share).lo), .int .i64 (((l.getD i default).share).hi)]) (res : List Int × List Int × Int) (h : wormtubref05_Warm fuel first l limit = some res) :
    Calls Go.Proofs.Try.prog 16 #[.agg #[.int .i64 first.flow.lo, .int .i64 first.flow.hi, .int .i64 first.warm.lo, .int .i64 first.warm.hi], .slice A0 l.length c0, .int .i64 limit] W fun e w' => ∃ v : Nat → Value, e = .returned (.tuple #[v 0, v 1, .int .i64 res.2.2]) ∧ Below W.heap.size W w' ∧ (∀ i, (v i).oneCell' = true) ∧ HeldIn (fun k => W.heap.size ≤ k) w' (SlicesAre 0 [⟨res.1.length, 1, fun i => [.int .i64 (res.1.getD i default)]⟩, ⟨res.2.1.length, 1, fun i => [.int .i64 (res.2.1.getD i default)]⟩] v) := by
  refine sym_call (f := 16) (fn := Go.Proofs.Try.f16) (c := Go.Proofs.Try.f16.body.get rfl) Go.Proofs.Try.func16 rfl [.agg [.v (.int .i64 first.flow.lo), .v (.int .i64 first.flow.hi), .v (.int .i64 first.warm.lo), .v (.int .i64 first.warm.hi)], .sl 0, .v (.int .i64 limit)] (wormtubref05_Warm_R l) [] (envOf [(0, ⟨A0, l.length, c0, 9⟩)]) allR (fun _ _ => rfl) (by kernel_rfl) (envOf_one trivial) ⟨s0.rd h0, trivial⟩ (AllRR.all _ _) trivial fun E a w S => ?_
  rw [wormtubref05_Warm] at h
  refine sym_seq lay_ok mixed [(0, { g := 0 })] [1, 2, 3] [0] (⟨[(1, .sl 0), (2, .v (.int .i64 limit)), (3, .own 0 0)], ⟨[(0, .blk 25 [.v (.int .i64 first.flow.lo), .v (.int .i64 first.flow.hi), .v (.int .i64 first.warm.lo), .v (.int .i64 first.warm.hi)])], (wormtubref05_Warm_R l), []⟩⟩) [] S (by kernel_rfl) (by kernel_rfl) (by kernel_rfl) trivial ?_
  clear S; intro E a w S
  refine wp_seq ?_
  obtain ⟨r1, e1, h⟩ := bind_some h
  refine sym_seq lay_ok mixed [(1, { res := .v (.bool r1) })] [1, 2, 3, 17] [0] (⟨[(1, .sl 0), (2, .v (.int .i64 limit)), (3, .own 0 0), (17, .v (.bool (!r1)))], ⟨[(0, .blk 25 [.v (.int .i64 first.flow.lo), .v (.int .i64 first.flow.hi), .v (.int .i64 first.warm.lo), .v (.int .i64 first.warm.hi)])], (wormtubref05_Warm_R l), []⟩⟩) [.call ⟨[], (wormtubref05_Warm_R l), []⟩ 23 [.agg [.v (.int .i64 first.flow.lo), .v (.int .i64 first.flow.hi), .v (.int .i64 first.warm.lo), .v (.int .i64 first.warm.hi)]] (.v (.bool r1))] S (by kernel_rfl) (by kernel_rfl) (by kernel_rfl) ⟨⟨enters_23, fun _ W _ hm => wormtubref05_Water_ok (MWater.mk (MSpan.mk first.flow.lo first.flow.hi) (MSpan.mk first.warm.lo first.warm.hi)) W r1 e1⟩, trivial⟩ ?_
  clear S; intro E a w S
  refine sym_if_last (b := (!r1)) S rfl (fun hb1 => ?_) (fun hb1 => ?_)
  · have h := bif_t hb1 h
    refine sym_seq lay_ok mixed [] [6, 7, 8] [] (⟨[(6, .v (.slice none 0 0)), (7, .v (.slice none 0 0)), (8, .v (.int .i64 1))], ⟨[], (wormtubref05_Warm_R l), []⟩⟩) [] S (by kernel_rfl) (by kernel_rfl) (by kernel_rfl) trivial ?_
    clear S; intro E a w S
    refine wp_ret ?_
    refine out_then_ret ?_
    have h := Option.some.inj h
    subst h
    exact sym_ret lay_ok [.v (.slice none 0 0), .v (.slice none 0 0), .v (.int .i64 1)] (by kernel_rfl) rfl S ⟨vfun [.slice none 0 0, .slice none 0 0], rfl, S.below rfl, vfun_one [.slice none 0 0, .slice none 0 0] ⟨rfl, rfl, trivial⟩, ((HeldIn.true fun _ => ⟨_, _, rfl, Nat.le_refl _, SlAt.nil⟩).and ((HeldIn.true fun _ => ⟨_, _, rfl, Nat.le_refl _, SlAt.nil⟩).and (HeldIn.true fun _ => trivial)))⟩
  · have h := bif_f hb1 h
    refine wp_skip ?_
    refine out_then_normal ?_
    refine wp_seq ?_
    obtain ⟨r2, e2, h⟩ := bind_some h
    refine sym_seq lay_ok mixed [(1, { res := .v (.bool r2) })] [1, 2, 3, 20] [0] (⟨[(1, .sl 0), (2, .v (.int .i64 limit)), (3, .own 0 0), (20, .v (.bool (!r2)))], ⟨[(0, .blk 25 [.v (.int .i64 first.flow.lo), .v (.int .i64 first.flow.hi), .v (.int .i64 first.warm.lo), .v (.int .i64 first.warm.hi)])], (wormtubref05_Warm_R l), []⟩⟩) [.call ⟨[], (wormtubref05_Warm_R l), []⟩ 39 [.v (.int .i64 limit), .v (.int .i64 0), .v (.int .i64 100000)] (.v (.bool r2))] S (by kernel_rfl) (by kernel_rfl) (by kernel_rfl) ⟨⟨enters_39, fun _ W _ hm => wormtubref05_in_ok limit 0 100000 W r2 e2⟩, trivial⟩ ?_
    clear S; intro E a w S
    refine sym_if_last (b := (!r2)) S rfl (fun hb2 => ?_) (fun hb2 => ?_)
    · have h := bif_t hb2 h
      refine sym_seq lay_ok mixed [] [6, 7, 8] [] (⟨[(6, .v (.slice none 0 0)), (7, .v (.slice none 0 0)), (8, .v (.int .i64 2))], ⟨[], (wormtubref05_Warm_R l), []⟩⟩) [] S (by kernel_rfl) (by kernel_rfl) (by kernel_rfl) trivial ?_
      clear S; intro E a w S
      refine wp_ret ?_
      refine out_then_ret ?_
      have h := Option.some.inj h
      subst h
      exact sym_ret lay_ok [.v (.slice none 0 0), .v (.slice none 0 0), .v (.int .i64 2)] (by kernel_rfl) rfl S ⟨vfun [.slice none 0 0, .slice none 0 0], rfl, S.below rfl, vfun_one [.slice none 0 0, .slice none 0 0] ⟨rfl, rfl, trivial⟩, ((HeldIn.true fun _ => ⟨_, _, rfl, Nat.le_refl _, SlAt.nil⟩).and ((HeldIn.true fun _ => ⟨_, _, rfl, Nat.le_refl _, SlAt.nil⟩).and (HeldIn.true fun _ => trivial)))⟩
    · have h := bif_f hb2 h
      refine wp_skip ?_
      refine out_then_normal ?_
      obtain ⟨r3, e3, h⟩ := bind_some h
      refine sym_seq lay_ok mixed [(2, { g := 1, res := .tup [.ltr 1 0, .v (.int .i64 r3.2.1), .v (.int .i64 r3.2.2)], hx := some (SlicesAre 0 [⟨r3.1.length, 4, fun i => [.int .i64 (((r3.1.getD i default).flow).lo), .int .i64 (((r3.1.getD i default).flow).hi), .int .i64 (((r3.1.getD i default).warm).lo), .int .i64 (((r3.1.getD i default).warm).hi)]⟩]) })] [2, 9, 11] [1] (⟨[(2, .v (.int .i64 limit)), (9, .ltr 1 0), (11, .v (.int .i64 r3.2.2))], ⟨[(1, .held (SlicesAre 0 [⟨r3.1.length, 4, fun i => [.int .i64 (((r3.1.getD i default).flow).lo), .int .i64 (((r3.1.getD i default).flow).hi), .int .i64 (((r3.1.getD i default).warm).lo), .int .i64 (((r3.1.getD i default).warm).hi)]⟩]))], (wormtubref05_Warm_R l), []⟩⟩) [.callx ⟨[], (wormtubref05_Warm_R l), []⟩ 1 14 [.agg [.v (.int .i64 first.flow.lo), .v (.int .i64 first.flow.hi), .v (.int .i64 first.warm.lo), .v (.int .i64 first.warm.hi)], .sl 0] (.tup [.ltr 1 0, .v (.int .i64 r3.2.1), .v (.int .i64 r3.2.2)]) (SlicesAre 0 [⟨r3.1.length, 4, fun i => [.int .i64 (((r3.1.getD i default).flow).lo), .int .i64 (((r3.1.getD i default).flow).hi), .int .i64 (((r3.1.getD i default).warm).lo), .int .i64 (((r3.1.getD i default).warm).hi)]⟩])] S (by kernel_rfl) (by kernel_rfl) (by kernel_rfl) ⟨⟨enters_14, fun E W _ hm => by obtain ⟨A0, c0, q0, l0, s0, _⟩ := Mem.sl hm (s := 0) rfl; simp only [SV.vals, SV.val, q0]; exact ((wormtubref05_Flow_ok fuel (MWater.mk (MSpan.mk first.flow.lo first.flow.hi) (MSpan.mk first.warm.lo first.warm.hi)) l W A0 c0 l0 s0 r3 e3).mono fun e w' hx => by obtain ⟨v, h1, h2, h3, h4⟩ := hx; exact ⟨v, h1, h2, h3, h4.mono fun _ _ h => .inl h⟩)⟩, trivial⟩ ?_
      clear S; intro E a w S
      obtain ⟨E, S⟩ := St.read 1 0 1001 ⟨r3.1.length, 4, fun i => [.int .i64 (((r3.1.getD i default).flow).lo), .int .i64 (((r3.1.getD i default).flow).hi), .int .i64 (((r3.1.getD i default).warm).lo), .int .i64 (((r3.1.getD i default).warm).hi)]⟩ (⟨[(2, .v (.int .i64 limit)), (9, .sl 1001), (11, .v (.int .i64 r3.2.2))], ⟨[(1, .held (SlicesAre 0 [⟨r3.1.length, 4, fun i => [.int .i64 (((r3.1.getD i default).flow).lo), .int .i64 (((r3.1.getD i default).flow).hi), .int .i64 (((r3.1.getD i default).warm).lo), .int .i64 (((r3.1.getD i default).warm).hi)]⟩]))], ((1001, ⟨r3.1.length, 4, fun i => [.int .i64 (((r3.1.getD i default).flow).lo), .int .i64 (((r3.1.getD i default).flow).hi), .int .i64 (((r3.1.getD i default).warm).lo), .int .i64 (((r3.1.getD i default).warm).hi)]⟩) :: (wormtubref05_Warm_R l)), []⟩⟩) rfl (fun v w h => h.1) (by intro _ h; cases h) (by kernel_rfl) (by kernel_rfl) S
      refine wp_seq ?_
      refine sym_seq lay_ok mixed [] [2, 9, 11, 29] [] (⟨[(2, .v (.int .i64 limit)), (9, .sl 1001), (11, .v (.int .i64 r3.2.2)), (29, .v (.bool (r3.2.2 != 0)))], ⟨[], ((1001, ⟨r3.1.length, 4, fun i => [.int .i64 (((r3.1.getD i default).flow).lo), .int .i64 (((r3.1.getD i default).flow).hi), .int .i64 (((r3.1.getD i default).warm).lo), .int .i64 (((r3.1.getD i default).warm).hi)]⟩) :: (wormtubref05_Warm_R l)), []⟩⟩) [] S (by kernel_rfl) (by kernel_rfl) (by kernel_rfl) trivial ?_
      clear S; intro E a w S
      refine sym_if_last (b := (r3.2.2 != 0)) S rfl (fun hb3 => ?_) (fun hb3 => ?_)
      · have h := bif_t hb3 h
        refine sym_seq lay_ok mixed [] [6, 7, 8] [] (⟨[(6, .v (.slice none 0 0)), (7, .v (.slice none 0 0)), (8, .v (.int .i64 r3.2.2))], ⟨[], ((1001, ⟨r3.1.length, 4, fun i => [.int .i64 (((r3.1.getD i default).flow).lo), .int .i64 (((r3.1.getD i default).flow).hi), .int .i64 (((r3.1.getD i default).warm).lo), .int .i64 (((r3.1.getD i default).warm).hi)]⟩) :: (wormtubref05_Warm_R l)), []⟩⟩) [] S (by kernel_rfl) (by kernel_rfl) (by kernel_rfl) trivial ?_
        clear S; intro E a w S
        refine wp_ret ?_
        refine out_then_ret ?_
        have h := Option.some.inj h
        subst h
        exact sym_ret lay_ok [.v (.slice none 0 0), .v (.slice none 0 0), .v (.int .i64 r3.2.2)] (by kernel_rfl) rfl S ⟨vfun [.slice none 0 0, .slice none 0 0], rfl, S.below rfl, vfun_one [.slice none 0 0, .slice none 0 0] ⟨rfl, rfl, trivial⟩, ((HeldIn.true fun _ => ⟨_, _, rfl, Nat.le_refl _, SlAt.nil⟩).and ((HeldIn.true fun _ => ⟨_, _, rfl, Nat.le_refl _, SlAt.nil⟩).and (HeldIn.true fun _ => trivial)))⟩
      · have h := bif_f hb3 h
        refine wp_skip ?_
        refine out_then_normal ?_
        refine sym_seq lay_ok mixed [] [2, 9, 12, 13] [] (⟨[(2, .v (.int .i64 limit)), (9, .sl 1001), (12, .v (.slice none 0 0)), (13, .v (.slice none 0 0))], ⟨[], ((1001, ⟨r3.1.length, 4, fun i => [.int .i64 (((r3.1.getD i default).flow).lo), .int .i64 (((r3.1.getD i default).flow).hi), .int .i64 (((r3.1.getD i default).warm).lo), .int .i64 (((r3.1.getD i default).warm).hi)]⟩) :: (wormtubref05_Warm_R l)), []⟩⟩) [] S (by kernel_rfl) (by kernel_rfl) (by kernel_rfl) trivial ?_
        clear S; intro E a w S
        refine wp_seq ?_
        refine sym_seq lay_ok mixed [] [2, 9, 12, 13, 14] [] (⟨[(2, .v (.int .i64 limit)), (9, .sl 1001), (12, .v (.slice none 0 0)), (13, .v (.slice none 0 0)), (14, .v (.int .i64 0))], ⟨[], ((1001, ⟨r3.1.length, 4, fun i => [.int .i64 (((r3.1.getD i default).flow).lo), .int .i64 (((r3.1.getD i default).flow).hi), .int .i64 (((r3.1.getD i default).warm).lo), .int .i64 (((r3.1.getD i default).warm).hi)]⟩) :: (wormtubref05_Warm_R l)), []⟩⟩) [] S (by kernel_rfl) (by kernel_rfl) (by kernel_rfl) trivial ?_
        clear S; intro E a w S
        have S := S.nilgr 0 3 1
        have S := S.reslot (t := 12) (sv' := .gr 0) rfl (by simp [SV.val, SV.subG, Env.updG_same])
        obtain ⟨E, S⟩ : ∃ E, St ⟨W, noC, Go.Proofs.Try.f16.ntmps, [], allR, noρ, (envOf [(0, ⟨A0, l.length, c0, 9⟩)]).sl, (envOf [(0, ⟨A0, l.length, c0, 9⟩)]).x⟩ (⟨[(2, .v (.int .i64 limit)), (9, .sl 1001), (12, .gr 0), (13, .v (.slice none 0 0)), (14, .v (.int .i64 0))], ⟨[], ((1001, ⟨r3.1.length, 4, fun i => [.int .i64 (((r3.1.getD i default).flow).lo), .int .i64 (((r3.1.getD i default).flow).hi), .int .i64 (((r3.1.getD i default).warm).lo), .int .i64 (((r3.1.getD i default).warm).hi)]⟩) :: (wormtubref05_Warm_R l)), [(0, ⟨3, 1, ([] : List Int).length, ([] : List Int).flatMap (fun x => [.int .i64 x])⟩)]⟩⟩) E a w := ⟨_, St.pickG S [2, 9, 12, 13, 14] [] [0] (⟨[(2, .v (.int .i64 limit)), (9, .sl 1001), (12, .gr 0), (13, .v (.slice none 0 0)), (14, .v (.int .i64 0))], ⟨[], ((1001, ⟨r3.1.length, 4, fun i => [.int .i64 (((r3.1.getD i default).flow).lo), .int .i64 (((r3.1.getD i default).flow).hi), .int .i64 (((r3.1.getD i default).warm).lo), .int .i64 (((r3.1.getD i default).warm).hi)]⟩) :: (wormtubref05_Warm_R l)), [(0, ⟨3, 1, ([] : List Int).length, ([] : List Int).flatMap (fun x => [.int .i64 x])⟩)]⟩⟩) (by kernel_rfl)⟩
        have S := S.nilgr 1 3 1
        have S := S.reslot (t := 13) (sv' := .gr 1) rfl (by simp [SV.val, SV.subG, Env.updG_same])
        obtain ⟨E, S⟩ : ∃ E, St ⟨W, noC, Go.Proofs.Try.f16.ntmps, [], allR, noρ, (envOf [(0, ⟨A0, l.length, c0, 9⟩)]).sl, (envOf [(0, ⟨A0, l.length, c0, 9⟩)]).x⟩ (⟨[(2, .v (.int .i64 limit)), (9, .sl 1001), (12, .gr 0), (13, .gr 1), (14, .v (.int .i64 0))], ⟨[], ((1001, ⟨r3.1.length, 4, fun i => [.int .i64 (((r3.1.getD i default).flow).lo), .int .i64 (((r3.1.getD i default).flow).hi), .int .i64 (((r3.1.getD i default).warm).lo), .int .i64 (((r3.1.getD i default).warm).hi)]⟩) :: (wormtubref05_Warm_R l)), [(0, ⟨3, 1, ([] : List Int).length, ([] : List Int).flatMap (fun x => [.int .i64 x])⟩), (1, ⟨3, 1, ([] : List Int).length, ([] : List Int).flatMap (fun x => [.int .i64 x])⟩)]⟩⟩) E a w := ⟨_, St.pickG S [2, 9, 12, 13, 14] [] [0, 1] (⟨[(2, .v (.int .i64 limit)), (9, .sl 1001), (12, .gr 0), (13, .gr 1), (14, .v (.int .i64 0))], ⟨[], ((1001, ⟨r3.1.length, 4, fun i => [.int .i64 (((r3.1.getD i default).flow).lo), .int .i64 (((r3.1.getD i default).flow).hi), .int .i64 (((r3.1.getD i default).warm).lo), .int .i64 (((r3.1.getD i default).warm).hi)]⟩) :: (wormtubref05_Warm_R l)), [(0, ⟨3, 1, ([] : List Int).length, ([] : List Int).flatMap (fun x => [.int .i64 x])⟩), (1, ⟨3, 1, ([] : List Int).length, ([] : List Int).flatMap (fun x => [.int .i64 x])⟩)]⟩⟩) (by kernel_rfl)⟩
        obtain ⟨lr1, e4, hp1⟩ := bind_some h
        clear h
        refine sym_block_last (G := fun a w => ∃ E, ∃ x1 : List Int × List Int, wormtubref05_Warm_k1 x1 = some res ∧ St ⟨W, noC, Go.Proofs.Try.f16.ntmps, [], allR, noρ, (envOf [(0, ⟨A0, l.length, c0, 9⟩)]).sl, (envOf [(0, ⟨A0, l.length, c0, 9⟩)]).x⟩ (⟨[(12, .gr 0), (13, .gr 1)], ⟨[], ((1001, ⟨r3.1.length, 4, fun i => [.int .i64 (((r3.1.getD i default).flow).lo), .int .i64 (((r3.1.getD i default).flow).hi), .int .i64 (((r3.1.getD i default).warm).lo), .int .i64 (((r3.1.getD i default).warm).hi)]⟩) :: (wormtubref05_Warm_R l)), [(0, ⟨3, 1, x1.1.length, x1.1.flatMap (fun x => [.int .i64 x])⟩), (1, ⟨3, 1, x1.2.length, x1.2.flatMap (fun x => [.int .i64 x])⟩)]⟩⟩) E a w) ?_ ?_
        · refine wp_loop_rounds fuel ?_
          refine sym_rounds (F := fun n b1 => wormtubref05_Warm_l1 limit r3 n b1 = some lr1) (H := fun b1 => ⟨[(2, .v (.int .i64 limit)), (9, .sl 1001), (12, .gr 0), (13, .gr 1), (14, .v (.int .i64 b1.1))], ⟨[], ((1001, ⟨r3.1.length, 4, fun i => [.int .i64 (((r3.1.getD i default).flow).lo), .int .i64 (((r3.1.getD i default).flow).hi), .int .i64 (((r3.1.getD i default).warm).lo), .int .i64 (((r3.1.getD i default).warm).hi)]⟩) :: (wormtubref05_Warm_R l)), [(0, ⟨3, 1, b1.2.1.length, b1.2.1.flatMap (fun x => [.int .i64 x])⟩), (1, ⟨3, 1, b1.2.2.length, b1.2.2.flatMap (fun x => [.int .i64 x])⟩)]⟩⟩) (0, ([] : List Int), ([] : List Int)) (fun b hb => by have hb : none = some lr1 := hb; cases hb) ?_ _ _ _ _ e4 (St.cast (P := Go.Proofs.Try.prog) [] [] [2, 9, 12, 13, 14] [] [1001, 0] _ [] (by kernel_rfl) trivial S)
          clear e4 S
          intro n b1 E a w h ih S
          rw [wormtubref05_Warm_l1] at h
          refine wp_seq ?_
          refine sym_seq lay_ok mixed [] [2, 9, 12, 13, 14, 34] [] (⟨[(2, .v (.int .i64 limit)), (9, .sl 1001), (12, .gr 0), (13, .gr 1), (14, .v (.int .i64 b1.1)), (34, .v (.bool (decide (b1.1 < ((r3.1.length : Nat) : Int)))))], ⟨[], ((1001, ⟨r3.1.length, 4, fun i => [.int .i64 (((r3.1.getD i default).flow).lo), .int .i64 (((r3.1.getD i default).flow).hi), .int .i64 (((r3.1.getD i default).warm).lo), .int .i64 (((r3.1.getD i default).warm).hi)]⟩) :: (wormtubref05_Warm_R l)), [(0, ⟨3, 1, b1.2.1.length, b1.2.1.flatMap (fun x => [.int .i64 x])⟩), (1, ⟨3, 1, b1.2.2.length, b1.2.2.flatMap (fun x => [.int .i64 x])⟩)]⟩⟩) [] S (by kernel_rfl) (by kernel_rfl) (by kernel_rfl) trivial ?_
          clear S; intro E a w S
          refine sym_if_last (b := decide (b1.1 < ((r3.1.length : Nat) : Int))) S rfl (fun hb4 => ?_) (fun hb4 => ?_)
          · have h := bif_t hb4 h
            refine wp_skip ?_
            refine out_then_normal ?_
            refine wp_seq ?_
            refine wp_block ?_
            refine wp_seq ?_
            obtain ⟨g1, h⟩ := grd_some h
            refine sym_seq lay_ok mixed [] [2, 9, 12, 13, 14, 44] [] (⟨[(2, .v (.int .i64 limit)), (9, .sl 1001), (12, .gr 0), (13, .gr 1), (14, .v (.int .i64 b1.1)), (44, .v (.bool (decide (limit < (((r3.1.getD (Int.toNat b1.1) default).warm).lo)))))], ⟨[], ((1001, ⟨r3.1.length, 4, fun i => [.int .i64 (((r3.1.getD i default).flow).lo), .int .i64 (((r3.1.getD i default).flow).hi), .int .i64 (((r3.1.getD i default).warm).lo), .int .i64 (((r3.1.getD i default).warm).hi)]⟩) :: (wormtubref05_Warm_R l)), [(0, ⟨3, 1, b1.2.1.length, b1.2.1.flatMap (fun x => [.int .i64 x])⟩), (1, ⟨3, 1, b1.2.2.length, b1.2.2.flatMap (fun x => [.int .i64 x])⟩)]⟩⟩) [.idx b1.1 r3.1.length, .idx b1.1 r3.1.length, .idx b1.1 r3.1.length, .idx b1.1 r3.1.length] S (by kernel_rfl) (by kernel_rfl) (by kernel_rfl) ⟨g1, g1, g1, g1, trivial⟩ ?_
            clear S; intro E a w S
            obtain ⟨j1, e5, h⟩ := bind_some h
            refine sym_meet_last (b := decide (limit < (((r3.1.getD (Int.toNat b1.1) default).warm).lo))) (⟨[(2, .v (.int .i64 limit)), (9, .sl 1001), (13, .gr 1), (14, .v (.int .i64 b1.1)), (12, .gr 0)], ⟨[], ((1001, ⟨r3.1.length, 4, fun i => [.int .i64 (((r3.1.getD i default).flow).lo), .int .i64 (((r3.1.getD i default).flow).hi), .int .i64 (((r3.1.getD i default).warm).lo), .int .i64 (((r3.1.getD i default).warm).hi)]⟩) :: (wormtubref05_Warm_R l)), [(0, ⟨3, 1, j1.length, j1.flatMap (fun x => [.int .i64 x])⟩), (1, ⟨3, 1, b1.2.2.length, b1.2.2.flatMap (fun x => [.int .i64 x])⟩)]⟩⟩) S rfl (fun hb5 => ?_) (fun hb5 => ?_) ?_
            · clear h; have h := bif_t hb5 e5
              obtain ⟨g2, h⟩ := grd_some h
              refine sym_open_last ?_
              refine sym_runP lay_ok [(2, { g := 6 })] 0 3 [2, 9, 12, 13, 14, 45, 47] [6] (⟨[(2, .v (.int .i64 limit)), (9, .sl 1001), (12, .gr 0), (13, .gr 1), (14, .v (.int .i64 b1.1)), (45, .gr 0), (47, .row 6 0 1 1)], ⟨[(6, .blk 3 [.v (.int .i64 b1.1)])], ((1001, ⟨r3.1.length, 4, fun i => [.int .i64 (((r3.1.getD i default).flow).lo), .int .i64 (((r3.1.getD i default).flow).hi), .int .i64 (((r3.1.getD i default).warm).lo), .int .i64 (((r3.1.getD i default).warm).hi)]⟩) :: (wormtubref05_Warm_R l)), [(0, ⟨3, 1, b1.2.1.length, b1.2.1.flatMap (fun x => [.int .i64 x])⟩), (1, ⟨3, 1, b1.2.2.length, b1.2.2.flatMap (fun x => [.int .i64 x])⟩)]⟩⟩) [] S (by kernel_rfl) (by kernel_rfl) trivial ?_
              clear S; intro E a w S
              refine sym_append lay_ok rfl (.tmp 45) (.tmp 47) 33 rfl rfl S 0 6 0 1 1 3 [.v (.int .i64 b1.1)] ⟨3, 1, b1.2.1.length, b1.2.1.flatMap (fun x => [.int .i64 x])⟩ ⟨.int .i64, 1, [.int .i64 0], false, 8⟩ ⟨.sli 3 1, 1, [.slice none 0 0], false, 24⟩ rfl rfl rfl rfl rfl rfl rfl rfl (show 0 < 1 by decide) rfl rfl (fun e he => by cases he; exact Nat.lt_of_succ_le (Nat.le_of_ble_eq_true rfl)) ⟨3, 1, (b1.2.1 ++ [b1.1]).length, (b1.2.1 ++ [b1.1]).flatMap (fun x => [.int .i64 x])⟩ rfl rfl (by simp) (fun E => by simp [SV.vals, SV.val]) (Nat.le_trans g2 (by decide)) (show (b1.2.1.length + 1) * 8 ≤ 140737488355328 by have := g2; omega) rfl ?_
              clear S; intro v0 E a w S; have S := St.pickG S [2, 9, 13, 14, 47, 48] [6] [0, 1] (⟨[(2, .v (.int .i64 limit)), (9, .sl 1001), (13, .gr 1), (14, .v (.int .i64 b1.1)), (47, .row 6 0 1 1), (48, .gr 0)], ⟨[(6, .blk 3 [.v (.int .i64 b1.1)])], ((1001, ⟨r3.1.length, 4, fun i => [.int .i64 (((r3.1.getD i default).flow).lo), .int .i64 (((r3.1.getD i default).flow).hi), .int .i64 (((r3.1.getD i default).warm).lo), .int .i64 (((r3.1.getD i default).warm).hi)]⟩) :: (wormtubref05_Warm_R l)), [(0, ⟨3, 1, (b1.2.1 ++ [b1.1]).length, (b1.2.1 ++ [b1.1]).flatMap (fun x => [.int .i64 x])⟩), (1, ⟨3, 1, b1.2.2.length, b1.2.2.flatMap (fun x => [.int .i64 x])⟩)]⟩⟩) (by kernel_rfl)
              refine sym_runP lay_ok [] 4 1 [2, 9, 13, 14, 12] [] (⟨[(2, .v (.int .i64 limit)), (9, .sl 1001), (13, .gr 1), (14, .v (.int .i64 b1.1)), (12, .gr 0)], ⟨[], ((1001, ⟨r3.1.length, 4, fun i => [.int .i64 (((r3.1.getD i default).flow).lo), .int .i64 (((r3.1.getD i default).flow).hi), .int .i64 (((r3.1.getD i default).warm).lo), .int .i64 (((r3.1.getD i default).warm).hi)]⟩) :: (wormtubref05_Warm_R l)), [(0, ⟨3, 1, (b1.2.1 ++ [b1.1]).length, (b1.2.1 ++ [b1.1]).flatMap (fun x => [.int .i64 x])⟩), (1, ⟨3, 1, b1.2.2.length, b1.2.2.flatMap (fun x => [.int .i64 x])⟩)]⟩⟩) [] S (by kernel_rfl) (by kernel_rfl) trivial ?_
              clear S; intro E a w S
              refine sym_done rfl ?_
              have S := St.pickG S [2, 9, 13, 14, 12] [] [0, 1] (⟨[(2, .v (.int .i64 limit)), (9, .sl 1001), (13, .gr 1), (14, .v (.int .i64 b1.1)), (12, .gr 0)], ⟨[], ((1001, ⟨r3.1.length, 4, fun i => [.int .i64 (((r3.1.getD i default).flow).lo), .int .i64 (((r3.1.getD i default).flow).hi), .int .i64 (((r3.1.getD i default).warm).lo), .int .i64 (((r3.1.getD i default).warm).hi)]⟩) :: (wormtubref05_Warm_R l)), [(0, ⟨3, 1, (b1.2.1 ++ [b1.1]).length, (b1.2.1 ++ [b1.1]).flatMap (fun x => [.int .i64 x])⟩), (1, ⟨3, 1, b1.2.2.length, b1.2.2.flatMap (fun x => [.int .i64 x])⟩)]⟩⟩) (by kernel_rfl)
              have hj := Option.some.inj h
              subst hj
              refine out_then_normal ?_
              exact ⟨_, St.cast (P := Go.Proofs.Try.prog) [] [] [2, 9, 13, 14, 12] [] [1001, 0] _ [] (by kernel_rfl) trivial S⟩
            · clear h; have h := bif_f hb5 e5
              refine wp_skip ?_
              have hj := Option.some.inj h
              subst hj
              refine out_then_normal ?_
              exact ⟨_, St.cast (P := Go.Proofs.Try.prog) [] [] [2, 9, 13, 14, 12] [] [1001, 0] _ [] (by kernel_rfl) trivial S⟩
            clear S; intro E a w S
            refine out_then_normal ?_
            refine sym_seq lay_ok mixed [] [2, 9, 13, 14, 12, 56] [] (⟨[(2, .v (.int .i64 limit)), (9, .sl 1001), (13, .gr 1), (14, .v (.int .i64 b1.1)), (12, .gr 0), (56, .v (.bool (decide (limit < (((r3.1.getD (Int.toNat b1.1) default).warm).hi)))))], ⟨[], ((1001, ⟨r3.1.length, 4, fun i => [.int .i64 (((r3.1.getD i default).flow).lo), .int .i64 (((r3.1.getD i default).flow).hi), .int .i64 (((r3.1.getD i default).warm).lo), .int .i64 (((r3.1.getD i default).warm).hi)]⟩) :: (wormtubref05_Warm_R l)), [(0, ⟨3, 1, j1.length, j1.flatMap (fun x => [.int .i64 x])⟩), (1, ⟨3, 1, b1.2.2.length, b1.2.2.flatMap (fun x => [.int .i64 x])⟩)]⟩⟩) [.idx b1.1 r3.1.length, .idx b1.1 r3.1.length, .idx b1.1 r3.1.length, .idx b1.1 r3.1.length] S (by kernel_rfl) (by kernel_rfl) (by kernel_rfl) ⟨g1, g1, g1, g1, trivial⟩ ?_
            clear S; intro E a w S
            refine sym_if_last (b := decide (limit < (((r3.1.getD (Int.toNat b1.1) default).warm).hi))) S rfl (fun hb6 => ?_) (fun hb6 => ?_)
            · have h := bif_t hb6 h
              obtain ⟨g3, h⟩ := grd_some h
              refine sym_open_last ?_
              refine sym_runP lay_ok [(2, { g := 7 })] 0 3 [2, 9, 13, 14, 12, 57, 59] [7] (⟨[(2, .v (.int .i64 limit)), (9, .sl 1001), (13, .gr 1), (14, .v (.int .i64 b1.1)), (12, .gr 0), (57, .gr 1), (59, .row 7 0 1 1)], ⟨[(7, .blk 3 [.v (.int .i64 b1.1)])], ((1001, ⟨r3.1.length, 4, fun i => [.int .i64 (((r3.1.getD i default).flow).lo), .int .i64 (((r3.1.getD i default).flow).hi), .int .i64 (((r3.1.getD i default).warm).lo), .int .i64 (((r3.1.getD i default).warm).hi)]⟩) :: (wormtubref05_Warm_R l)), [(0, ⟨3, 1, j1.length, j1.flatMap (fun x => [.int .i64 x])⟩), (1, ⟨3, 1, b1.2.2.length, b1.2.2.flatMap (fun x => [.int .i64 x])⟩)]⟩⟩) [] S (by kernel_rfl) (by kernel_rfl) trivial ?_
              clear S; intro E a w S
              refine sym_append lay_ok rfl (.tmp 57) (.tmp 59) 33 rfl rfl S 1 7 0 1 1 3 [.v (.int .i64 b1.1)] ⟨3, 1, b1.2.2.length, b1.2.2.flatMap (fun x => [.int .i64 x])⟩ ⟨.int .i64, 1, [.int .i64 0], false, 8⟩ ⟨.sli 3 1, 1, [.slice none 0 0], false, 24⟩ rfl rfl rfl rfl rfl rfl rfl rfl (show 0 < 1 by decide) rfl rfl (fun e he => by cases he; exact Nat.lt_of_succ_le (Nat.le_of_ble_eq_true rfl)) ⟨3, 1, (b1.2.2 ++ [b1.1]).length, (b1.2.2 ++ [b1.1]).flatMap (fun x => [.int .i64 x])⟩ rfl rfl (by simp) (fun E => by simp [SV.vals, SV.val]) (Nat.le_trans g3 (by decide)) (show (b1.2.2.length + 1) * 8 ≤ 140737488355328 by have := g3; omega) rfl ?_
              clear S; intro v0 E a w S; have S := St.pickG S [2, 9, 14, 12, 59, 60] [7] [0, 1] (⟨[(2, .v (.int .i64 limit)), (9, .sl 1001), (14, .v (.int .i64 b1.1)), (12, .gr 0), (59, .row 7 0 1 1), (60, .gr 1)], ⟨[(7, .blk 3 [.v (.int .i64 b1.1)])], ((1001, ⟨r3.1.length, 4, fun i => [.int .i64 (((r3.1.getD i default).flow).lo), .int .i64 (((r3.1.getD i default).flow).hi), .int .i64 (((r3.1.getD i default).warm).lo), .int .i64 (((r3.1.getD i default).warm).hi)]⟩) :: (wormtubref05_Warm_R l)), [(0, ⟨3, 1, j1.length, j1.flatMap (fun x => [.int .i64 x])⟩), (1, ⟨3, 1, (b1.2.2 ++ [b1.1]).length, (b1.2.2 ++ [b1.1]).flatMap (fun x => [.int .i64 x])⟩)]⟩⟩) (by kernel_rfl)
              refine sym_runP lay_ok [] 4 1 [2, 9, 14, 12, 13] [] (⟨[(2, .v (.int .i64 limit)), (9, .sl 1001), (14, .v (.int .i64 b1.1)), (12, .gr 0), (13, .gr 1)], ⟨[], ((1001, ⟨r3.1.length, 4, fun i => [.int .i64 (((r3.1.getD i default).flow).lo), .int .i64 (((r3.1.getD i default).flow).hi), .int .i64 (((r3.1.getD i default).warm).lo), .int .i64 (((r3.1.getD i default).warm).hi)]⟩) :: (wormtubref05_Warm_R l)), [(0, ⟨3, 1, j1.length, j1.flatMap (fun x => [.int .i64 x])⟩), (1, ⟨3, 1, (b1.2.2 ++ [b1.1]).length, (b1.2.2 ++ [b1.1]).flatMap (fun x => [.int .i64 x])⟩)]⟩⟩) [] S (by kernel_rfl) (by kernel_rfl) trivial ?_
              clear S; intro E a w S
              refine sym_done rfl ?_
              have S := St.pickG S [2, 9, 14, 12, 13] [] [0, 1] (⟨[(2, .v (.int .i64 limit)), (9, .sl 1001), (14, .v (.int .i64 b1.1)), (12, .gr 0), (13, .gr 1)], ⟨[], ((1001, ⟨r3.1.length, 4, fun i => [.int .i64 (((r3.1.getD i default).flow).lo), .int .i64 (((r3.1.getD i default).flow).hi), .int .i64 (((r3.1.getD i default).warm).lo), .int .i64 (((r3.1.getD i default).warm).hi)]⟩) :: (wormtubref05_Warm_R l)), [(0, ⟨3, 1, j1.length, j1.flatMap (fun x => [.int .i64 x])⟩), (1, ⟨3, 1, (b1.2.2 ++ [b1.1]).length, (b1.2.2 ++ [b1.1]).flatMap (fun x => [.int .i64 x])⟩)]⟩⟩) (by kernel_rfl)
              refine out_block_normal ?_
              refine out_then_normal ?_
              obtain ⟨g4, h⟩ := grd_some h
              refine sym_last lay_ok mixed [] [2, 9, 14, 12, 13] [] (⟨[(2, .v (.int .i64 limit)), (9, .sl 1001), (14, .v (.int .i64 (b1.1 + 1))), (12, .gr 0), (13, .gr 1)], ⟨[], ((1001, ⟨r3.1.length, 4, fun i => [.int .i64 (((r3.1.getD i default).flow).lo), .int .i64 (((r3.1.getD i default).flow).hi), .int .i64 (((r3.1.getD i default).warm).lo), .int .i64 (((r3.1.getD i default).warm).hi)]⟩) :: (wormtubref05_Warm_R l)), [(0, ⟨3, 1, j1.length, j1.flatMap (fun x => [.int .i64 x])⟩), (1, ⟨3, 1, (b1.2.2 ++ [b1.1]).length, (b1.2.2 ++ [b1.1]).flatMap (fun x => [.int .i64 x])⟩)]⟩⟩) [.rng .i64 (b1.1 + 1)] S (by kernel_rfl) (by kernel_rfl) (by kernel_rfl) ⟨rngI64 g4, trivial⟩ ?_
              clear S; intro E a w S
              refine out_then_normal ?_
              exact ih ((b1.1 + 1), j1, (b1.2.2 ++ [b1.1])) _ _ _ h (St.cast (P := Go.Proofs.Try.prog) [] [] [2, 9, 12, 13, 14] [] [1001, 0] _ [] (by kernel_rfl) trivial S)
            · have h := bif_f hb6 h
              refine wp_skip ?_
              refine out_block_normal ?_
              refine out_then_normal ?_
              obtain ⟨g5, h⟩ := grd_some h
              refine sym_last lay_ok mixed [] [2, 9, 13, 14, 12] [] (⟨[(2, .v (.int .i64 limit)), (9, .sl 1001), (13, .gr 1), (14, .v (.int .i64 (b1.1 + 1))), (12, .gr 0)], ⟨[], ((1001, ⟨r3.1.length, 4, fun i => [.int .i64 (((r3.1.getD i default).flow).lo), .int .i64 (((r3.1.getD i default).flow).hi), .int .i64 (((r3.1.getD i default).warm).lo), .int .i64 (((r3.1.getD i default).warm).hi)]⟩) :: (wormtubref05_Warm_R l)), [(0, ⟨3, 1, j1.length, j1.flatMap (fun x => [.int .i64 x])⟩), (1, ⟨3, 1, b1.2.2.length, b1.2.2.flatMap (fun x => [.int .i64 x])⟩)]⟩⟩) [.rng .i64 (b1.1 + 1)] S (by kernel_rfl) (by kernel_rfl) (by kernel_rfl) ⟨rngI64 g5, trivial⟩ ?_
              clear S; intro E a w S
              refine out_then_normal ?_
              exact ih ((b1.1 + 1), j1, b1.2.2) _ _ _ h (St.cast (P := Go.Proofs.Try.prog) [] [] [2, 9, 12, 13, 14] [] [1001, 0] _ [] (by kernel_rfl) trivial S)
          · have h := bif_f hb4 h
            refine wp_exit ?_
            refine out_then_exit ?_
            refine out_then_exit ?_
            refine out_block_here ?_
            refine out_then_normal ?_
            have hr := Option.some.inj h
            subst hr
            exact ⟨_, (b1.2.1, b1.2.2), hp1, St.cast (P := Go.Proofs.Try.prog) [] [] [12, 13] [] [1001, 0] _ [] (by kernel_rfl) trivial S⟩
        clear e4 S
        rintro a w ⟨E, x1, h, S⟩
        rw [wormtubref05_Warm_k1] at h
        refine out_then_normal ?_
        refine sym_seq lay_ok mixed [] [6, 7, 8] [] (⟨[(6, .gr 0), (7, .gr 1), (8, .v (.int .i64 0))], ⟨[], ((1001, ⟨r3.1.length, 4, fun i => [.int .i64 (((r3.1.getD i default).flow).lo), .int .i64 (((r3.1.getD i default).flow).hi), .int .i64 (((r3.1.getD i default).warm).lo), .int .i64 (((r3.1.getD i default).warm).hi)]⟩) :: (wormtubref05_Warm_R l)), [(0, ⟨3, 1, x1.1.length, x1.1.flatMap (fun x => [.int .i64 x])⟩), (1, ⟨3, 1, x1.2.length, x1.2.flatMap (fun x => [.int .i64 x])⟩)]⟩⟩) [] S (by kernel_rfl) (by kernel_rfl) (by kernel_rfl) trivial ?_
        clear S; intro E a w S
        refine wp_ret ?_
        have h := Option.some.inj h
        subst h
        exact sym_ret lay_ok [.gr 0, .gr 1, .v (.int .i64 0)] (by kernel_rfl) rfl S ⟨vfun [E.gr 0, E.gr 1], rfl, S.below rfl, vfun_one [E.gr 0, E.gr 1] ⟨(S.gr_one (k := 0) rfl), (S.gr_one (k := 1) rfl), trivial⟩, (((S.mem.gr 0 _ rfl).slice (S.gr_new rfl (k := 0) rfl) 0 (vfun [E.gr 0, E.gr 1]) rfl _ (flat_get (fun x => [.int .i64 x]) 1 (fun _ => rfl) x1.1)).and (((S.mem.gr 1 _ rfl).slice (S.gr_new rfl (k := 1) rfl) 1 (vfun [E.gr 0, E.gr 1]) rfl _ (flat_get (fun x => [.int .i64 x]) 1 (fun _ => rfl) x1.2)).and (HeldIn.true fun _ => trivial)))⟩
end Go.Proofs.Ytlcccomdijdkaaa
