import Derived.Test.YtlcccomdijdkaaaPPln5
import Derived.Laws.CopyRow
import Derived.Laws.IdiomCopy
import Derived.Lib.AppendZeros
import Derived.Scope
namespace Go.Proofs.Ytlcccomdijdkaaa
open Go.RowKit Go.Proofs.Try

/-- a block that holds the points -/
def PBox (l : List MPoint) (v : Nat → Value) (w : World) : Prop := ∃ x r, v 0 = .pointer (some ⟨x, 0, none⟩) ∧ Blk w x 26 #[.slice r.A r.len r.cap] ∧ RdAt w (pQ l) r
/-- the point that adds a heat -/
abbrev addP (heat : Int) : MPoint := ⟨2, ⟨0, 0⟩, ⟨0, 0⟩, ⟨heat, heat⟩, ⟨0, 0⟩⟩
/-- three blocks that hold the points, where one more is handed on, and that -/
def HBox (l : List MPoint) (at' heat : Int) (v : Nat → Value) (w : World) : Prop := ∃ x y z r, v 0 = .pointer (some ⟨x, 0, none⟩) ∧ v 1 = .pointer (some ⟨y, 0, none⟩) ∧ v 2 = .pointer (some ⟨z, 0, none⟩) ∧ Blk w x 26 #[.slice r.A r.len r.cap] ∧ Blk w y 3 #[.int .i64 at'] ∧ Blk w z 47 (pCells (addP heat)).toArray ∧ RdAt w (pQ l) r
set_option maxRecDepth 100000 in
set_option maxHeartbeats 4000000 in
theorem values_ok (l : List MPoint) (W : World) (R : Nat → Prop) (A0 : Option Addr) (c0 : Nat) (h0 : l.length ≤ c0) (s0 : SlAt W A0 l.length 9 fun i => pZ (l.getD i default)) (r0 : InR R A0 l.length) :
    Calls Go.Proofs.Try.prog 36 #[.slice A0 l.length c0] W fun e w' => ∃ v : Nat → Value, e = .returned (.func (.func 55) #[] #[v 0]) ∧ Below W.heap.size W w' ∧ (∀ i, (v i).oneCell' = true) ∧ HeldIn (fun k => W.heap.size ≤ k ∨ R k) w' (PBox l v) := by
  have h : (some () : Option Unit) = some () := rfl
  refine sym_call (f := 36) (fn := Go.Proofs.Try.f36) (c := Go.Proofs.Try.f36.body.get rfl) Go.Proofs.Try.func36 rfl [.sl 0] [(0, pQ l)] [] (envOf [(0, ⟨A0, l.length, c0, 9⟩)]) R (fun _ _ => rfl) (by kernel_rfl) (envOf_one trivial) ⟨s0.rd h0, trivial⟩ ⟨r0, trivial⟩ trivial fun E a w S => ?_
  refine sym_seq lay_ok mixed [(0, { g := 0 })] [1] [0] (⟨[(1, .own 0 0)], ⟨[(0, .blk 26 [.sl 0])], [(0, pQ l)], []⟩⟩) [] S (by kernel_rfl) (by kernel_rfl) (by kernel_rfl) trivial ?_
  clear S; intro E a w S
  refine sym_seq lay_ok mixed [] [2] [0] (⟨[(2, .fn 55 [.own 0 0])], ⟨[(0, .blk 26 [.sl 0])], [(0, pQ l)], []⟩⟩) [] S (by kernel_rfl) (by kernel_rfl) (by kernel_rfl) trivial ?_
  clear S; intro E a w S
  refine wp_ret ?_
  have h := Option.some.inj h
  clear h
  exact sym_ret lay_ok [.fn 55 [.own 0 0]] (by kernel_rfl) rfl S ⟨vfun [.pointer (some ⟨E.ρ 0, 0, none⟩)], rfl, S.below rfl, vfun_one _ ⟨rfl, trivial⟩, ((HeldIn.mono (S.own_blk (g := 0) rfl rfl) (fun k _ h => .inl h)).and (S.rd_held (s := 0) rfl (fun i hi => by simp))).imp fun w hw => ⟨_, _, rfl, hw.1, hw.2⟩⟩
set_option maxRecDepth 100000 in
set_option maxHeartbeats 4000000 in
theorem heatedOf_ok (l : List MPoint) (at' heat : Int) (W : World) (R : Nat → Prop) (A0 : Option Addr) (c0 : Nat) (h0 : l.length ≤ c0) (s0 : SlAt W A0 l.length 9 fun i => pZ (l.getD i default)) (r0 : InR R A0 l.length) :
    Calls Go.Proofs.Try.prog 42 #[.slice A0 l.length c0, .int .i64 at', .int .i64 heat] W fun e w' => ∃ v : Nat → Value, e = .returned (.func (.func 57) #[] #[v 0, v 1, v 2]) ∧ Below W.heap.size W w' ∧ (∀ i, (v i).oneCell' = true) ∧ HeldIn (fun k => W.heap.size ≤ k ∨ R k) w' (HBox l at' heat v) := by
  have h : (some () : Option Unit) = some () := rfl
  refine sym_call (f := 42) (fn := Go.Proofs.Try.f42) (c := Go.Proofs.Try.f42.body.get rfl) Go.Proofs.Try.func42 rfl [.sl 0, iv (at'), iv (heat)] [(0, pQ l)] [] (envOf [(0, ⟨A0, l.length, c0, 9⟩)]) R (fun _ _ => rfl) (by kernel_rfl) (envOf_one trivial) ⟨s0.rd h0, trivial⟩ ⟨r0, trivial⟩ trivial fun E a w S => ?_
  refine sym_seq lay_ok mixed [(0, { g := 0 }), (1, { g := 1 })] [2, 3, 4] [0, 1] (⟨[(2, iv (heat)), (3, .own 0 0), (4, .own 1 0)], ⟨[(0, .blk 26 [.sl 0]), (1, .blk 3 [iv (at')])], [(0, pQ l)], []⟩⟩) [] S (by kernel_rfl) (by kernel_rfl) (by kernel_rfl) trivial ?_
  clear S; intro E a w S
  refine sym_seq lay_ok mixed [(4, { g := 2 })] [3, 4, 7] [0, 1, 2] (⟨[(3, .own 0 0), (4, .own 1 0), (7, .own 2 0)], ⟨[(0, .blk 26 [.sl 0]), (1, .blk 3 [iv (at')]), (2, .blk 47 [iv (2), iv (0), iv (0), iv (0), iv (0), iv (heat), iv (heat), iv (0), iv (0)])], [(0, pQ l)], []⟩⟩) [] S (by kernel_rfl) (by kernel_rfl) (by kernel_rfl) trivial ?_
  clear S; intro E a w S
  refine sym_seq lay_ok mixed [] [6] [0, 1, 2] (⟨[(6, .fn 57 [.own 0 0, .own 1 0, .own 2 0])], ⟨[(0, .blk 26 [.sl 0]), (1, .blk 3 [iv (at')]), (2, .blk 47 [iv (2), iv (0), iv (0), iv (0), iv (0), iv (heat), iv (heat), iv (0), iv (0)])], [(0, pQ l)], []⟩⟩) [] S (by kernel_rfl) (by kernel_rfl) (by kernel_rfl) trivial ?_
  clear S; intro E a w S
  refine wp_ret ?_
  have h := Option.some.inj h
  clear h
  exact sym_ret lay_ok [.fn 57 [.own 0 0, .own 1 0, .own 2 0]] (by kernel_rfl) rfl S ⟨vfun [.pointer (some ⟨E.ρ 0, 0, none⟩), .pointer (some ⟨E.ρ 1, 0, none⟩), .pointer (some ⟨E.ρ 2, 0, none⟩)], rfl, S.below rfl, vfun_one _ ⟨rfl, rfl, rfl, trivial⟩, ((HeldIn.mono (((S.own_blk (g := 0) rfl rfl).and (S.own_blk (g := 1) rfl rfl)).and (S.own_blk (g := 2) rfl rfl)) (fun k _ h => .inl h)).and (S.rd_held (s := 0) rfl (fun i hi => by simp))).imp fun w hw => ⟨_, _, _, _, rfl, rfl, rfl, hw.1.1.1, hw.1.1.2, hw.1.2, hw.2⟩⟩
/-- follow, by Values -/
theorem follow_values (c0 : MWater) (l : List MPoint) (W : World) (v : Nat → Value) (hb : PBox l v W) (hl : l.length ≤ 1000000) (res : List MWater × Int) (h : followM c0 [] l = some res) : Calls prog 35 #[.agg (wCells c0).toArray, .func (.func 55) #[] #[v 0]] W (FolPost W res) := by
  obtain ⟨x, r, hv, hx, hr⟩ := hb
  obtain ⟨r1, r2, r3⟩ := hr.sl
  rw [hv]
  rw [r1] at hx
  exact follow_ok c0 l 55 _ _ W res h enters_55 (valuesSeq l r.A r.cap x W (by omega) r2 r3 hx) (fun k hk => hk)
def wormtubref05_Flow_R (l : List MPoint) : List (Nat × Q) := [(0, (pQZ l))]
def wormtubref05_Flow (fuel : Nat) (first : MWater) (l : List MPoint) : Option (List MWater × Int × Int) :=
(wormtubref05_Water (MWater.mk (MSpan.mk first.flow.lo first.flow.hi) (MSpan.mk first.warm.lo first.warm.hi))).bind fun (r1 : Bool) =>
(bif (!r1) then
(some ([], 0, 1))
else
((bif decide (64 < ((l.length : Nat) : Int)) then
(some ([], 0, 3))
else
((wormtubref05_flow fuel (MWater.mk (MSpan.mk first.flow.lo first.flow.hi) (MSpan.mk first.warm.lo first.warm.hi)) l).bind fun (r2 : (List MWater × Int × Int)) =>
some (r2.1, r2.2.1, r2.2.2)))))
set_option maxRecDepth 100000 in
set_option maxHeartbeats 4000000 in
theorem wormtubref05_Flow_ok (fuel : Nat) (first : MWater) (l : List MPoint) (W : World) (A0 : Option Addr) (c0 : Nat) (h0 : l.length ≤ c0) (s0 : SlAt W A0 l.length 9 fun i => pZ (l.getD i default)) (res : List MWater × Int × Int) (h : wormtubref05_Flow fuel first l = some res) :
    Calls Go.Proofs.Try.prog 14 #[.agg #[.int .i64 first.flow.lo, .int .i64 first.flow.hi, .int .i64 first.warm.lo, .int .i64 first.warm.hi], .slice A0 l.length c0] W fun e w' => ∃ v : Nat → Value, e = .returned (.tuple #[v 0, .int .i64 res.2.1, .int .i64 res.2.2]) ∧ Below W.heap.size W w' ∧ (∀ i, (v i).oneCell' = true) ∧ HeldIn (fun k => W.heap.size ≤ k) w' (SlicesAre 0 [(wQZ res.1)] v) := by
  refine sym_call (f := 14) (fn := Go.Proofs.Try.f14) (c := Go.Proofs.Try.f14.body.get rfl) Go.Proofs.Try.func14 rfl [.agg [iv (first.flow.lo), iv (first.flow.hi), iv (first.warm.lo), iv (first.warm.hi)], .sl 0] (wormtubref05_Flow_R l) [] (envOf [(0, ⟨A0, l.length, c0, 9⟩)]) allR (fun _ _ => rfl) (by kernel_rfl) (envOf_one trivial) ⟨s0.rd h0, trivial⟩ (AllRR.all _ _) trivial fun E a w S => ?_
  rw [wormtubref05_Flow] at h
  refine sym_seq lay_ok mixed [(0, { g := 0 })] [1, 2] [0] (⟨[(1, .sl 0), (2, .own 0 0)], ⟨[(0, .blk 25 [iv (first.flow.lo), iv (first.flow.hi), iv (first.warm.lo), iv (first.warm.hi)])], (wormtubref05_Flow_R l), []⟩⟩) [] S (by kernel_rfl) (by kernel_rfl) (by kernel_rfl) trivial ?_
  clear S; intro E a w S
  refine wp_seq ?_
  obtain ⟨r1, e1, h⟩ := bind_some h
  refine sym_seq lay_ok mixed [(1, { res := .v (.bool r1) })] [1, 2, 9] [0] (⟨[(1, .sl 0), (2, .own 0 0), (9, .v (.bool (!r1)))], ⟨[(0, .blk 25 [iv (first.flow.lo), iv (first.flow.hi), iv (first.warm.lo), iv (first.warm.hi)])], (wormtubref05_Flow_R l), []⟩⟩) [.call ⟨[], (wormtubref05_Flow_R l), []⟩ 23 [.agg [iv (first.flow.lo), iv (first.flow.hi), iv (first.warm.lo), iv (first.warm.hi)]] (.v (.bool r1))] S (by kernel_rfl) (by kernel_rfl) (by kernel_rfl) ⟨⟨enters_23, fun _ W _ hm => wormtubref05_Water_ok (MWater.mk (MSpan.mk first.flow.lo first.flow.hi) (MSpan.mk first.warm.lo first.warm.hi)) W r1 e1⟩, trivial⟩ ?_
  clear S; intro E a w S
  refine sym_if_last (b := (!r1)) S rfl (fun hb1 => ?_) (fun hb1 => ?_)
  · have h := bif_t hb1 h
    refine sym_seq lay_ok mixed [] [4, 5, 6] [] (⟨[(4, .v (.slice none 0 0)), (5, iv (0)), (6, iv (1))], ⟨[], (wormtubref05_Flow_R l), []⟩⟩) [] S (by kernel_rfl) (by kernel_rfl) (by kernel_rfl) trivial ?_
    clear S; intro E a w S
    refine wp_ret ?_
    refine out_then_ret ?_
    have h := Option.some.inj h
    subst h
    exact sym_ret lay_ok [.v (.slice none 0 0), iv (0), iv (1)] (by kernel_rfl) rfl S ⟨vfun [.slice none 0 0], rfl, S.below rfl, vfun_one [.slice none 0 0] ⟨rfl, trivial⟩, ((HeldIn.true fun _ => ⟨_, _, rfl, Nat.le_refl _, SlAt.nil⟩).and (HeldIn.true fun _ => trivial))⟩
  · have h := bif_f hb1 h
    refine wp_skip ?_
    refine out_then_normal ?_
    refine wp_seq ?_
    refine sym_seq lay_ok mixed [] [1, 2, 12] [0] (⟨[(1, .sl 0), (2, .own 0 0), (12, .v (.bool (decide (64 < ((l.length : Nat) : Int)))))], ⟨[(0, .blk 25 [iv (first.flow.lo), iv (first.flow.hi), iv (first.warm.lo), iv (first.warm.hi)])], (wormtubref05_Flow_R l), []⟩⟩) [] S (by kernel_rfl) (by kernel_rfl) (by kernel_rfl) trivial ?_
    clear S; intro E a w S
    refine sym_if_last (b := decide (64 < ((l.length : Nat) : Int))) S rfl (fun hb2 => ?_) (fun hb2 => ?_)
    · have h := bif_t hb2 h
      refine sym_seq lay_ok mixed [] [4, 5, 6] [] (⟨[(4, .v (.slice none 0 0)), (5, iv (0)), (6, iv (3))], ⟨[], (wormtubref05_Flow_R l), []⟩⟩) [] S (by kernel_rfl) (by kernel_rfl) (by kernel_rfl) trivial ?_
      clear S; intro E a w S
      refine wp_ret ?_
      refine out_then_ret ?_
      have h := Option.some.inj h
      subst h
      exact sym_ret lay_ok [.v (.slice none 0 0), iv (0), iv (3)] (by kernel_rfl) rfl S ⟨vfun [.slice none 0 0], rfl, S.below rfl, vfun_one [.slice none 0 0] ⟨rfl, trivial⟩, ((HeldIn.true fun _ => ⟨_, _, rfl, Nat.le_refl _, SlAt.nil⟩).and (HeldIn.true fun _ => trivial))⟩
    · have h := bif_f hb2 h
      refine wp_skip ?_
      refine out_then_normal ?_
      obtain ⟨r2, e2, h⟩ := bind_some h
      refine sym_seq lay_ok mixed [(2, { g := 1, res := .tup [.ltr 1 0, iv (r2.2.1), iv (r2.2.2)], hx := some (SliceNew W.heap.size (wQZ r2.1)) })] [4, 5, 6] [1] (⟨[(4, .ltr 1 0), (5, iv (r2.2.1)), (6, iv (r2.2.2))], ⟨[(1, .held (SliceNew W.heap.size (wQZ r2.1)))], (wormtubref05_Flow_R l), []⟩⟩) [.callx ⟨[], (wormtubref05_Flow_R l), []⟩ 1 37 [.agg [iv (first.flow.lo), iv (first.flow.hi), iv (first.warm.lo), iv (first.warm.hi)], .sl 0] (.tup [.ltr 1 0, iv (r2.2.1), iv (r2.2.2)]) (SliceNew W.heap.size (wQZ r2.1))] S (by kernel_rfl) (by kernel_rfl) (by kernel_rfl) ⟨⟨enters_37, fun E W _ hm => by obtain ⟨A0, c0, q0, l0, s0, _⟩ := Mem.sl hm (s := 0) rfl; simp only [SV.vals, SV.val, q0]; exact ((wormtubref05_flow_ok fuel (MWater.mk (MSpan.mk first.flow.lo first.flow.hi) (MSpan.mk first.warm.lo first.warm.hi)) l W A0 c0 l0 s0 r2 e2).mono fun e w' hx => by obtain ⟨v, h1, h2, h3, h4⟩ := hx; exact ⟨v, h1, h2, h3, (SliceNew.of hm.size h4 (by simp)).mono fun _ _ h => .inl h⟩)⟩, trivial⟩ ?_
      clear S; intro E a w S
      refine wp_ret ?_
      have h := Option.some.inj h
      subst h
      exact sym_ret lay_ok [.ltr 1 0, iv (r2.2.1), iv (r2.2.2)] (by kernel_rfl) rfl S ⟨vfun [E.x 1 0], rfl, S.below rfl, vfun_one [E.x 1 0] ⟨(S.mem.one 1 0), trivial⟩, ((SliceNew.back (S.sep.held 1 _ rfl) (u := vfun [E.x 1 0]) (j := 0) rfl (fun i hi => by simp)).and (HeldIn.true fun _ => trivial))⟩
def stream_Flow_R (l : List MPoint) : List (Nat × Q) := [(0, (pQZ l))]
def stream_Flow (first : MWater) (l : List MPoint) : Option (List MWater × Int × Int) :=
(stream_validWater (MWater.mk (MSpan.mk first.flow.lo first.flow.hi) (MSpan.mk first.warm.lo first.warm.hi))).bind fun (r1 : Bool) =>
(bif (!r1) then
(some ([], 0, 1))
else
((bif decide (64 < ((l.length : Nat) : Int)) then
(some ([], 0, 3))
else
(grd ((l.length ≤ 1000000)) <|
(followM (MWater.mk (MSpan.mk first.flow.lo first.flow.hi) (MSpan.mk first.warm.lo first.warm.hi)) [] l).bind fun (r2 : List MWater × Int) =>
(bif (r2.2 != 0) then
(some ([], ((r2.1.length : Nat) : Int), r2.2))
else
(some (r2.1, ((r2.1.length : Nat) : Int), 0)))))))
set_option maxRecDepth 100000 in
set_option maxHeartbeats 4000000 in
theorem stream_Flow_ok (first : MWater) (l : List MPoint) (W : World) (A0 : Option Addr) (c0 : Nat) (h0 : l.length ≤ c0) (s0 : SlAt W A0 l.length 9 fun i => pZ (l.getD i default)) (res : List MWater × Int × Int) (h : stream_Flow first l = some res) :
    Calls Go.Proofs.Try.prog 13 #[.agg #[.int .i64 first.flow.lo, .int .i64 first.flow.hi, .int .i64 first.warm.lo, .int .i64 first.warm.hi], .slice A0 l.length c0] W fun e w' => ∃ v : Nat → Value, e = .returned (.tuple #[v 0, .int .i64 res.2.1, .int .i64 res.2.2]) ∧ Below W.heap.size W w' ∧ (∀ i, (v i).oneCell' = true) ∧ HeldIn (fun k => W.heap.size ≤ k) w' (SlicesAre 0 [(wQZ res.1)] v) := by
  refine sym_call (f := 13) (fn := Go.Proofs.Try.f13) (c := Go.Proofs.Try.f13.body.get rfl) Go.Proofs.Try.func13 rfl [.agg [iv (first.flow.lo), iv (first.flow.hi), iv (first.warm.lo), iv (first.warm.hi)], .sl 0] (stream_Flow_R l) [] (envOf [(0, ⟨A0, l.length, c0, 9⟩)]) allR (fun _ _ => rfl) (by kernel_rfl) (envOf_one trivial) ⟨s0.rd h0, trivial⟩ (AllRR.all _ _) trivial fun E a w S => ?_
  rw [stream_Flow] at h
  refine sym_seq lay_ok mixed [(0, { g := 0 })] [1, 2] [0] (⟨[(1, .sl 0), (2, .own 0 0)], ⟨[(0, .blk 25 [iv (first.flow.lo), iv (first.flow.hi), iv (first.warm.lo), iv (first.warm.hi)])], (stream_Flow_R l), []⟩⟩) [] S (by kernel_rfl) (by kernel_rfl) (by kernel_rfl) trivial ?_
  clear S; intro E a w S
  refine wp_seq ?_
  obtain ⟨r1, e1, h⟩ := bind_some h
  refine sym_seq lay_ok mixed [(1, { res := .v (.bool r1) })] [1, 2, 9] [0] (⟨[(1, .sl 0), (2, .own 0 0), (9, .v (.bool (!r1)))], ⟨[(0, .blk 25 [iv (first.flow.lo), iv (first.flow.hi), iv (first.warm.lo), iv (first.warm.hi)])], (stream_Flow_R l), []⟩⟩) [.call ⟨[], (stream_Flow_R l), []⟩ 34 [.agg [iv (first.flow.lo), iv (first.flow.hi), iv (first.warm.lo), iv (first.warm.hi)]] (.v (.bool r1))] S (by kernel_rfl) (by kernel_rfl) (by kernel_rfl) ⟨⟨enters_34, fun _ W _ hm => stream_validWater_ok (MWater.mk (MSpan.mk first.flow.lo first.flow.hi) (MSpan.mk first.warm.lo first.warm.hi)) W r1 e1⟩, trivial⟩ ?_
  clear S; intro E a w S
  refine sym_if_last (b := (!r1)) S rfl (fun hb1 => ?_) (fun hb1 => ?_)
  · have h := bif_t hb1 h
    refine sym_seq lay_ok mixed [] [4, 5, 6] [] (⟨[(4, .v (.slice none 0 0)), (5, iv (0)), (6, iv (1))], ⟨[], (stream_Flow_R l), []⟩⟩) [] S (by kernel_rfl) (by kernel_rfl) (by kernel_rfl) trivial ?_
    clear S; intro E a w S
    refine wp_ret ?_
    refine out_then_ret ?_
    have h := Option.some.inj h
    subst h
    exact sym_ret lay_ok [.v (.slice none 0 0), iv (0), iv (1)] (by kernel_rfl) rfl S ⟨vfun [.slice none 0 0], rfl, S.below rfl, vfun_one [.slice none 0 0] ⟨rfl, trivial⟩, ((HeldIn.true fun _ => ⟨_, _, rfl, Nat.le_refl _, SlAt.nil⟩).and (HeldIn.true fun _ => trivial))⟩
  · have h := bif_f hb1 h
    refine wp_skip ?_
    refine out_then_normal ?_
    refine wp_seq ?_
    refine sym_seq lay_ok mixed [] [1, 2, 12] [0] (⟨[(1, .sl 0), (2, .own 0 0), (12, .v (.bool (decide (64 < ((l.length : Nat) : Int)))))], ⟨[(0, .blk 25 [iv (first.flow.lo), iv (first.flow.hi), iv (first.warm.lo), iv (first.warm.hi)])], (stream_Flow_R l), []⟩⟩) [] S (by kernel_rfl) (by kernel_rfl) (by kernel_rfl) trivial ?_
    clear S; intro E a w S
    refine sym_if_last (b := decide (64 < ((l.length : Nat) : Int))) S rfl (fun hb2 => ?_) (fun hb2 => ?_)
    · have h := bif_t hb2 h
      refine sym_seq lay_ok mixed [] [4, 5, 6] [] (⟨[(4, .v (.slice none 0 0)), (5, iv (0)), (6, iv (3))], ⟨[], (stream_Flow_R l), []⟩⟩) [] S (by kernel_rfl) (by kernel_rfl) (by kernel_rfl) trivial ?_
      clear S; intro E a w S
      refine wp_ret ?_
      refine out_then_ret ?_
      have h := Option.some.inj h
      subst h
      exact sym_ret lay_ok [.v (.slice none 0 0), iv (0), iv (3)] (by kernel_rfl) rfl S ⟨vfun [.slice none 0 0], rfl, S.below rfl, vfun_one [.slice none 0 0] ⟨rfl, trivial⟩, ((HeldIn.true fun _ => ⟨_, _, rfl, Nat.le_refl _, SlAt.nil⟩).and (HeldIn.true fun _ => trivial))⟩
    · have h := bif_f hb2 h
      refine wp_skip ?_
      refine out_then_normal ?_
      obtain ⟨g1, h⟩ := grd_some h
      obtain ⟨r2, e2, h⟩ := bind_some h
      refine sym_seq lay_ok mixed [(2, { g := 1, res := .fn 55 [.ltr 1 0], hx := some (PBox l) }), (3, { g := 2, fp := [1], res := .tup [.ltr 2 0, iv (r2.2)], hx := some (SliceNew W.heap.size (wQZ r2.1)) })] [4, 6] [2] (⟨[(4, .ltr 2 0), (6, iv (r2.2))], ⟨[(2, .held (SliceNew W.heap.size (wQZ r2.1)))], (stream_Flow_R l), []⟩⟩) [.callx ⟨[], (stream_Flow_R l), []⟩ 1 36 [.sl 0] (.fn 55 [.ltr 1 0]) (PBox l), .callx ⟨[(1, .held (PBox l))], (stream_Flow_R l), []⟩ 2 35 [.agg [iv (first.flow.lo), iv (first.flow.hi), iv (first.warm.lo), iv (first.warm.hi)], .fn 55 [.ltr 1 0]] (.tup [.ltr 2 0, iv (r2.2)]) (SliceNew W.heap.size (wQZ r2.1))] S (by kernel_rfl) (by kernel_rfl) (by kernel_rfl) ⟨⟨enters_36, fun E W R hm => by obtain ⟨A0, c0, q0, l0, s0, r0⟩ := Mem.sl hm (s := 0) rfl; simp only [SV.vals, SV.val, q0, Env.updX_same]; exact values_ok l W R A0 c0 l0 s0 r0⟩, ⟨enters_35, fun E W R hm => by have hx := follow_values (MWater.mk (MSpan.mk first.flow.lo first.flow.hi) (MSpan.mk first.warm.lo first.warm.hi)) l W (E.x 1) (hm.held 1 _ rfl).out g1 r2 e2; simp only [SV.vals, SV.val, Env.updX_same]; exact hx.mono fun e w' hx => by obtain ⟨v, h1, h2, h3, h4⟩ := hx; exact ⟨v, h1, h2, h3, (SliceNew.of hm.size h4 (fun _ => by simp)).mono fun _ _ h => .inl h⟩⟩, trivial⟩ ?_
      clear S; intro E a w S
      refine sym_seq lay_ok mixed [(1, { fp := [2], px := some (iv (((r2.1.length : Nat) : Int))) })] [4, 6, 5] [2] (⟨[(4, .ltr 2 0), (6, iv (r2.2)), (5, iv (((r2.1.length : Nat) : Int)))], ⟨[(2, .held (SliceNew W.heap.size (wQZ r2.1)))], (stream_Flow_R l), []⟩⟩) [.pure ⟨[(2, .held (SliceNew W.heap.size (wQZ r2.1)))], (stream_Flow_R l), []⟩ (.call ⟨.builtin .len, #[.tmp 20], #[29]⟩) [.ltr 2 0] (iv (((r2.1.length : Nat) : Int)))] S (by kernel_rfl) (by kernel_rfl) (by kernel_rfl) ⟨pure_len lay_ok rfl rfl (fun v w h => ⟨_, _, h.1.choose_spec.choose_spec.1⟩), trivial⟩ ?_
      clear S; intro E a w S
      refine wp_seq ?_
      refine sym_seq lay_ok mixed [] [4, 6, 5, 23] [2] (⟨[(4, .ltr 2 0), (6, iv (r2.2)), (5, iv (((r2.1.length : Nat) : Int))), (23, .v (.bool (r2.2 != 0)))], ⟨[(2, .held (SliceNew W.heap.size (wQZ r2.1)))], (stream_Flow_R l), []⟩⟩) [] S (by kernel_rfl) (by kernel_rfl) (by kernel_rfl) trivial ?_
      clear S; intro E a w S
      refine sym_if_last (b := (r2.2 != 0)) S rfl (fun hb3 => ?_) (fun hb3 => ?_)
      · have h := bif_t hb3 h
        refine sym_seq lay_ok mixed [] [4, 6, 5] [] (⟨[(4, .v (.slice none 0 0)), (6, iv (r2.2)), (5, iv (((r2.1.length : Nat) : Int)))], ⟨[], (stream_Flow_R l), []⟩⟩) [] S (by kernel_rfl) (by kernel_rfl) (by kernel_rfl) trivial ?_
        clear S; intro E a w S
        refine wp_ret ?_
        refine out_then_ret ?_
        have h := Option.some.inj h
        subst h
        exact sym_ret lay_ok [.v (.slice none 0 0), iv (((r2.1.length : Nat) : Int)), iv (r2.2)] (by kernel_rfl) rfl S ⟨vfun [.slice none 0 0], rfl, S.below rfl, vfun_one [.slice none 0 0] ⟨rfl, trivial⟩, ((HeldIn.true fun _ => ⟨_, _, rfl, Nat.le_refl _, SlAt.nil⟩).and (HeldIn.true fun _ => trivial))⟩
      · have h := bif_f hb3 h
        refine wp_skip ?_
        refine out_then_normal ?_
        refine sym_seq lay_ok mixed [] [4, 6, 5] [2] (⟨[(4, .ltr 2 0), (6, iv (0)), (5, iv (((r2.1.length : Nat) : Int)))], ⟨[(2, .held (SliceNew W.heap.size (wQZ r2.1)))], (stream_Flow_R l), []⟩⟩) [] S (by kernel_rfl) (by kernel_rfl) (by kernel_rfl) trivial ?_
        clear S; intro E a w S
        refine wp_ret ?_
        have h := Option.some.inj h
        subst h
        exact sym_ret lay_ok [.ltr 2 0, iv (((r2.1.length : Nat) : Int)), iv (0)] (by kernel_rfl) rfl S ⟨vfun [E.x 2 0], rfl, S.below rfl, vfun_one [E.x 2 0] ⟨(S.mem.one 2 0), trivial⟩, ((SliceNew.back (S.sep.held 2 _ rfl) (u := vfun [E.x 2 0]) (j := 0) rfl (fun i hi => by simp)).and (HeldIn.true fun _ => trivial))⟩
def stream_Warm_R (l : List MPoint) : List (Nat × Q) := [(0, (pQZ l))]
def stream_Warm_k1  (x1 : List Int × List Int) : Option (List Int × List Int × Int) :=
some (x1.1, x1.2, 0)
def stream_Warm_l1 (limit : Int) (r3 : (List MWater × Int × Int)) : Nat → (Int × List Int × List Int) → Option (Lp (List Int × List Int) (List Int × List Int × Int))
  | 0, _ => none
  | n + 1, b1 =>
    (bif decide (b1.1 < ((r3.1.length : Nat) : Int)) then
    (grd (((0 : Int) ≤ b1.1 ∧ (b1.1 : Int) < ((r3.1.length : Nat) : Int))) <|
    (bif decide (limit < (((r3.1.getD (Int.toNat b1.1) default).warm).lo)) then
    (grd ((b1.2.1.length + 1 ≤ 1000000)) <|
    some (b1.2.1 ++ [b1.1]))
    else
    (some b1.2.1)).bind fun (j1 : List Int) =>
    (bif decide (limit < (((r3.1.getD (Int.toNat b1.1) default).warm).hi)) then
    (grd ((b1.2.2.length + 1 ≤ 1000000)) <|
    grd (InI64 (b1.1 + 1)) <|
    stream_Warm_l1 limit r3 n ((b1.1 + 1), j1, (b1.2.2 ++ [b1.1])))
    else
    (grd (InI64 (b1.1 + 1)) <|
    stream_Warm_l1 limit r3 n ((b1.1 + 1), j1, b1.2.2))))
    else
    (some (Lp.done (b1.2.1, b1.2.2))))
def stream_Warm (fuel : Nat) (first : MWater) (l : List MPoint) (limit : Int) : Option (List Int × List Int × Int) :=
(stream_validWater (MWater.mk (MSpan.mk first.flow.lo first.flow.hi) (MSpan.mk first.warm.lo first.warm.hi))).bind fun (r1 : Bool) =>
(bif (!r1) then
(some ([], [], 1))
else
((stream_validLimit limit).bind fun (r2 : Bool) =>
(bif (!r2) then
(some ([], [], 2))
else
((stream_Flow (MWater.mk (MSpan.mk first.flow.lo first.flow.hi) (MSpan.mk first.warm.lo first.warm.hi)) l).bind fun (r3 : (List MWater × Int × Int)) =>
(bif (r3.2.2 != 0) then
(some ([], [], r3.2.2))
else
((stream_Warm_l1 limit r3 fuel (0, ([] : List Int), ([] : List Int))).bind fun lr1 => lr1.go fun x1 => stream_Warm_k1 x1))))))
set_option maxRecDepth 100000 in
set_option maxHeartbeats 4000000 in
theorem stream_Warm_ok (fuel : Nat) (first : MWater) (l : List MPoint) (limit : Int) (W : World) (A0 : Option Addr) (c0 : Nat) (h0 : l.length ≤ c0) (s0 : SlAt W A0 l.length 9 fun i => pZ (l.getD i default)) (res : List Int × List Int × Int) (h : stream_Warm fuel first l limit = some res) :
    Calls Go.Proofs.Try.prog 15 #[.agg #[.int .i64 first.flow.lo, .int .i64 first.flow.hi, .int .i64 first.warm.lo, .int .i64 first.warm.hi], .slice A0 l.length c0, .int .i64 limit] W fun e w' => ∃ v : Nat → Value, e = .returned (.tuple #[v 0, v 1, .int .i64 res.2.2]) ∧ Below W.heap.size W w' ∧ (∀ i, (v i).oneCell' = true) ∧ HeldIn (fun k => W.heap.size ≤ k) w' (SlicesAre 0 [(iQZ res.1), (iQZ res.2.1)] v) := by
  refine sym_call (f := 15) (fn := Go.Proofs.Try.f15) (c := Go.Proofs.Try.f15.body.get rfl) Go.Proofs.Try.func15 rfl [.agg [iv (first.flow.lo), iv (first.flow.hi), iv (first.warm.lo), iv (first.warm.hi)], .sl 0, iv (limit)] (stream_Warm_R l) [] (envOf [(0, ⟨A0, l.length, c0, 9⟩)]) allR (fun _ _ => rfl) (by kernel_rfl) (envOf_one trivial) ⟨s0.rd h0, trivial⟩ (AllRR.all _ _) trivial fun E a w S => ?_
  rw [stream_Warm] at h
  refine sym_seq lay_ok mixed [(0, { g := 0 })] [1, 2, 3, 6, 7] [0] (⟨[(1, .sl 0), (2, iv (limit)), (3, .own 0 0), (6, .v (.slice none 0 0)), (7, .v (.slice none 0 0))], ⟨[(0, .blk 25 [iv (first.flow.lo), iv (first.flow.hi), iv (first.warm.lo), iv (first.warm.hi)])], (stream_Warm_R l), []⟩⟩) [] S (by kernel_rfl) (by kernel_rfl) (by kernel_rfl) trivial ?_
  clear S; intro E a w S
  refine wp_seq ?_
  obtain ⟨r1, e1, h⟩ := bind_some h
  refine sym_seq lay_ok mixed [(1, { res := .v (.bool r1) })] [1, 2, 3, 6, 7, 15] [0] (⟨[(1, .sl 0), (2, iv (limit)), (3, .own 0 0), (6, .v (.slice none 0 0)), (7, .v (.slice none 0 0)), (15, .v (.bool (!r1)))], ⟨[(0, .blk 25 [iv (first.flow.lo), iv (first.flow.hi), iv (first.warm.lo), iv (first.warm.hi)])], (stream_Warm_R l), []⟩⟩) [.call ⟨[], (stream_Warm_R l), []⟩ 34 [.agg [iv (first.flow.lo), iv (first.flow.hi), iv (first.warm.lo), iv (first.warm.hi)]] (.v (.bool r1))] S (by kernel_rfl) (by kernel_rfl) (by kernel_rfl) ⟨⟨enters_34, fun _ W _ hm => stream_validWater_ok (MWater.mk (MSpan.mk first.flow.lo first.flow.hi) (MSpan.mk first.warm.lo first.warm.hi)) W r1 e1⟩, trivial⟩ ?_
  clear S; intro E a w S
  refine sym_if_last (b := (!r1)) S rfl (fun hb1 => ?_) (fun hb1 => ?_)
  · have h := bif_t hb1 h
    refine sym_seq lay_ok mixed [] [6, 7, 8] [] (⟨[(6, .v (.slice none 0 0)), (7, .v (.slice none 0 0)), (8, iv (1))], ⟨[], (stream_Warm_R l), []⟩⟩) [] S (by kernel_rfl) (by kernel_rfl) (by kernel_rfl) trivial ?_
    clear S; intro E a w S
    refine wp_ret ?_
    refine out_then_ret ?_
    have h := Option.some.inj h
    subst h
    exact sym_ret lay_ok [.v (.slice none 0 0), .v (.slice none 0 0), iv (1)] (by kernel_rfl) rfl S ⟨vfun [.slice none 0 0, .slice none 0 0], rfl, S.below rfl, vfun_one [.slice none 0 0, .slice none 0 0] ⟨rfl, rfl, trivial⟩, ((HeldIn.true fun _ => ⟨_, _, rfl, Nat.le_refl _, SlAt.nil⟩).and ((HeldIn.true fun _ => ⟨_, _, rfl, Nat.le_refl _, SlAt.nil⟩).and (HeldIn.true fun _ => trivial)))⟩
  · have h := bif_f hb1 h
    refine wp_skip ?_
    refine out_then_normal ?_
    refine wp_seq ?_
    obtain ⟨r2, e2, h⟩ := bind_some h
    refine sym_seq lay_ok mixed [(1, { res := .v (.bool r2) })] [1, 2, 3, 6, 7, 18] [0] (⟨[(1, .sl 0), (2, iv (limit)), (3, .own 0 0), (6, .v (.slice none 0 0)), (7, .v (.slice none 0 0)), (18, .v (.bool (!r2)))], ⟨[(0, .blk 25 [iv (first.flow.lo), iv (first.flow.hi), iv (first.warm.lo), iv (first.warm.hi)])], (stream_Warm_R l), []⟩⟩) [.call ⟨[], (stream_Warm_R l), []⟩ 38 [iv (limit)] (.v (.bool r2))] S (by kernel_rfl) (by kernel_rfl) (by kernel_rfl) ⟨⟨enters_38, fun _ W _ hm => stream_validLimit_ok limit W r2 e2⟩, trivial⟩ ?_
    clear S; intro E a w S
    refine sym_if_last (b := (!r2)) S rfl (fun hb2 => ?_) (fun hb2 => ?_)
    · have h := bif_t hb2 h
      refine sym_seq lay_ok mixed [] [6, 7, 8] [] (⟨[(6, .v (.slice none 0 0)), (7, .v (.slice none 0 0)), (8, iv (2))], ⟨[], (stream_Warm_R l), []⟩⟩) [] S (by kernel_rfl) (by kernel_rfl) (by kernel_rfl) trivial ?_
      clear S; intro E a w S
      refine wp_ret ?_
      refine out_then_ret ?_
      have h := Option.some.inj h
      subst h
      exact sym_ret lay_ok [.v (.slice none 0 0), .v (.slice none 0 0), iv (2)] (by kernel_rfl) rfl S ⟨vfun [.slice none 0 0, .slice none 0 0], rfl, S.below rfl, vfun_one [.slice none 0 0, .slice none 0 0] ⟨rfl, rfl, trivial⟩, ((HeldIn.true fun _ => ⟨_, _, rfl, Nat.le_refl _, SlAt.nil⟩).and ((HeldIn.true fun _ => ⟨_, _, rfl, Nat.le_refl _, SlAt.nil⟩).and (HeldIn.true fun _ => trivial)))⟩
    · have h := bif_f hb2 h
      refine wp_skip ?_
      refine out_then_normal ?_
      obtain ⟨r3, e3, h⟩ := bind_some h
      refine sym_seq lay_ok mixed [(2, { g := 1, res := .tup [.ltr 1 0, iv (r3.2.1), iv (r3.2.2)], hx := some (SlicesAre 0 [(wQZ r3.1)]) })] [2, 6, 7, 9, 8] [1] (⟨[(2, iv (limit)), (6, .v (.slice none 0 0)), (7, .v (.slice none 0 0)), (9, .ltr 1 0), (8, iv (r3.2.2))], ⟨[(1, .held (SlicesAre 0 [(wQZ r3.1)]))], (stream_Warm_R l), []⟩⟩) [.callx ⟨[], (stream_Warm_R l), []⟩ 1 13 [.agg [iv (first.flow.lo), iv (first.flow.hi), iv (first.warm.lo), iv (first.warm.hi)], .sl 0] (.tup [.ltr 1 0, iv (r3.2.1), iv (r3.2.2)]) (SlicesAre 0 [(wQZ r3.1)])] S (by kernel_rfl) (by kernel_rfl) (by kernel_rfl) ⟨⟨enters_13, fun E W _ hm => by obtain ⟨A0, c0, q0, l0, s0, _⟩ := Mem.sl hm (s := 0) rfl; simp only [SV.vals, SV.val, q0]; exact ((stream_Flow_ok (MWater.mk (MSpan.mk first.flow.lo first.flow.hi) (MSpan.mk first.warm.lo first.warm.hi)) l W A0 c0 l0 s0 r3 e3).mono fun e w' hx => by obtain ⟨v, h1, h2, h3, h4⟩ := hx; exact ⟨v, h1, h2, h3, h4.mono fun _ _ h => .inl h⟩)⟩, trivial⟩ ?_
      clear S; intro E a w S
      obtain ⟨E, S⟩ := St.read 1 0 1001 (wQZ r3.1) (⟨[(2, iv (limit)), (6, .v (.slice none 0 0)), (7, .v (.slice none 0 0)), (9, .sl 1001), (8, iv (r3.2.2))], ⟨[(1, .held (SlicesAre 0 [(wQZ r3.1)]))], ((1001, (wQZ r3.1)) :: (stream_Warm_R l)), []⟩⟩) rfl (fun v w h => h.1) (by intro _ h; cases h) (by kernel_rfl) (by kernel_rfl) S
      refine wp_seq ?_
      refine sym_seq lay_ok mixed [] [2, 6, 7, 9, 8, 27] [] (⟨[(2, iv (limit)), (6, .v (.slice none 0 0)), (7, .v (.slice none 0 0)), (9, .sl 1001), (8, iv (r3.2.2)), (27, .v (.bool (r3.2.2 != 0)))], ⟨[], ((1001, (wQZ r3.1)) :: (stream_Warm_R l)), []⟩⟩) [] S (by kernel_rfl) (by kernel_rfl) (by kernel_rfl) trivial ?_
      clear S; intro E a w S
      refine sym_if_last (b := (r3.2.2 != 0)) S rfl (fun hb3 => ?_) (fun hb3 => ?_)
      · have h := bif_t hb3 h
        refine sym_seq lay_ok mixed [] [6, 7, 8] [] (⟨[(6, .v (.slice none 0 0)), (7, .v (.slice none 0 0)), (8, iv (r3.2.2))], ⟨[], ((1001, (wQZ r3.1)) :: (stream_Warm_R l)), []⟩⟩) [] S (by kernel_rfl) (by kernel_rfl) (by kernel_rfl) trivial ?_
        clear S; intro E a w S
        refine wp_ret ?_
        refine out_then_ret ?_
        have h := Option.some.inj h
        subst h
        exact sym_ret lay_ok [.v (.slice none 0 0), .v (.slice none 0 0), iv (r3.2.2)] (by kernel_rfl) rfl S ⟨vfun [.slice none 0 0, .slice none 0 0], rfl, S.below rfl, vfun_one [.slice none 0 0, .slice none 0 0] ⟨rfl, rfl, trivial⟩, ((HeldIn.true fun _ => ⟨_, _, rfl, Nat.le_refl _, SlAt.nil⟩).and ((HeldIn.true fun _ => ⟨_, _, rfl, Nat.le_refl _, SlAt.nil⟩).and (HeldIn.true fun _ => trivial)))⟩
      · have h := bif_f hb3 h
        refine wp_skip ?_
        refine out_then_normal ?_
        refine wp_seq ?_
        refine sym_seq lay_ok mixed [] [2, 6, 7, 29, 30, 31] [] (⟨[(2, iv (limit)), (6, .v (.slice none 0 0)), (7, .v (.slice none 0 0)), (29, .sl 1001), (30, iv (((r3.1.length : Nat) : Int))), (31, iv (0))], ⟨[], ((1001, (wQZ r3.1)) :: (stream_Warm_R l)), []⟩⟩) [] S (by kernel_rfl) (by kernel_rfl) (by kernel_rfl) trivial ?_
        clear S; intro E a w S
        have S := S.nilgr 0 3 1
        have S := S.reslot (t := 6) (sv' := .gr 0) rfl (by simp [SV.val, SV.subG, Env.updG_same])
        obtain ⟨E, S⟩ : ∃ E, St ⟨W, noC, Go.Proofs.Try.f15.ntmps, [], allR, noρ, (envOf [(0, ⟨A0, l.length, c0, 9⟩)]).sl, (envOf [(0, ⟨A0, l.length, c0, 9⟩)]).x⟩ (⟨[(2, iv (limit)), (6, .gr 0), (7, .v (.slice none 0 0)), (29, .sl 1001), (30, iv (((r3.1.length : Nat) : Int))), (31, iv (0))], ⟨[], ((1001, (wQZ r3.1)) :: (stream_Warm_R l)), [(0, ⟨3, 1, ([] : List Int).length, ([] : List Int).flatMap (fun x => [.int .i64 x])⟩)]⟩⟩) E a w := ⟨_, St.pickG S [2, 6, 7, 29, 30, 31] [] [0] (⟨[(2, iv (limit)), (6, .gr 0), (7, .v (.slice none 0 0)), (29, .sl 1001), (30, iv (((r3.1.length : Nat) : Int))), (31, iv (0))], ⟨[], ((1001, (wQZ r3.1)) :: (stream_Warm_R l)), [(0, ⟨3, 1, ([] : List Int).length, ([] : List Int).flatMap (fun x => [.int .i64 x])⟩)]⟩⟩) (by kernel_rfl)⟩
        have S := S.nilgr 1 3 1
        have S := S.reslot (t := 7) (sv' := .gr 1) rfl (by simp [SV.val, SV.subG, Env.updG_same])
        obtain ⟨E, S⟩ : ∃ E, St ⟨W, noC, Go.Proofs.Try.f15.ntmps, [], allR, noρ, (envOf [(0, ⟨A0, l.length, c0, 9⟩)]).sl, (envOf [(0, ⟨A0, l.length, c0, 9⟩)]).x⟩ (⟨[(2, iv (limit)), (6, .gr 0), (7, .gr 1), (29, .sl 1001), (30, iv (((r3.1.length : Nat) : Int))), (31, iv (0))], ⟨[], ((1001, (wQZ r3.1)) :: (stream_Warm_R l)), [(0, ⟨3, 1, ([] : List Int).length, ([] : List Int).flatMap (fun x => [.int .i64 x])⟩), (1, ⟨3, 1, ([] : List Int).length, ([] : List Int).flatMap (fun x => [.int .i64 x])⟩)]⟩⟩) E a w := ⟨_, St.pickG S [2, 6, 7, 29, 30, 31] [] [0, 1] (⟨[(2, iv (limit)), (6, .gr 0), (7, .gr 1), (29, .sl 1001), (30, iv (((r3.1.length : Nat) : Int))), (31, iv (0))], ⟨[], ((1001, (wQZ r3.1)) :: (stream_Warm_R l)), [(0, ⟨3, 1, ([] : List Int).length, ([] : List Int).flatMap (fun x => [.int .i64 x])⟩), (1, ⟨3, 1, ([] : List Int).length, ([] : List Int).flatMap (fun x => [.int .i64 x])⟩)]⟩⟩) (by kernel_rfl)⟩
        obtain ⟨lr1, e4, hp1⟩ := bind_some h
        clear h
        refine sym_block_last (G := fun a w => ∃ E, ∃ x1 : List Int × List Int, stream_Warm_k1 x1 = some res ∧ St ⟨W, noC, Go.Proofs.Try.f15.ntmps, [], allR, noρ, (envOf [(0, ⟨A0, l.length, c0, 9⟩)]).sl, (envOf [(0, ⟨A0, l.length, c0, 9⟩)]).x⟩ (⟨[(6, .gr 0), (7, .gr 1)], ⟨[], ((1001, (wQZ r3.1)) :: (stream_Warm_R l)), [(0, ⟨3, 1, x1.1.length, x1.1.flatMap (fun x => [.int .i64 x])⟩), (1, ⟨3, 1, x1.2.length, x1.2.flatMap (fun x => [.int .i64 x])⟩)]⟩⟩) E a w) ?_ ?_
        · refine wp_loop_rounds fuel ?_
          refine sym_rounds (F := fun n b1 => stream_Warm_l1 limit r3 n b1 = some lr1) (H := fun b1 => ⟨[(2, iv (limit)), (6, .gr 0), (7, .gr 1), (29, .sl 1001), (30, iv (((r3.1.length : Nat) : Int))), (31, iv (b1.1))], ⟨[], ((1001, (wQZ r3.1)) :: (stream_Warm_R l)), [(0, ⟨3, 1, b1.2.1.length, b1.2.1.flatMap (fun x => [.int .i64 x])⟩), (1, ⟨3, 1, b1.2.2.length, b1.2.2.flatMap (fun x => [.int .i64 x])⟩)]⟩⟩) (0, ([] : List Int), ([] : List Int)) (fun b hb => by have hb : none = some lr1 := hb; cases hb) ?_ _ _ _ _ e4 (St.cast (P := Go.Proofs.Try.prog) [] [] [2, 6, 7, 29, 30, 31] [] [1001, 0] _ [] (by kernel_rfl) trivial S)
          clear e4 S
          intro n b1 E a w h ih S
          rw [stream_Warm_l1] at h
          refine sym_seq lay_ok mixed [] [2, 6, 7, 29, 30, 31, 32] [] (⟨[(2, iv (limit)), (6, .gr 0), (7, .gr 1), (29, .sl 1001), (30, iv (((r3.1.length : Nat) : Int))), (31, iv (b1.1)), (32, .v (.bool (decide (b1.1 < ((r3.1.length : Nat) : Int)))))], ⟨[], ((1001, (wQZ r3.1)) :: (stream_Warm_R l)), [(0, ⟨3, 1, b1.2.1.length, b1.2.1.flatMap (fun x => [.int .i64 x])⟩), (1, ⟨3, 1, b1.2.2.length, b1.2.2.flatMap (fun x => [.int .i64 x])⟩)]⟩⟩) [] S (by kernel_rfl) (by kernel_rfl) (by kernel_rfl) trivial ?_
          clear S; intro E a w S
          refine sym_if (b := decide (b1.1 < ((r3.1.length : Nat) : Int))) S rfl (fun hb4 => ?_) (fun hb4 => ?_)
          · have h := bif_t hb4 h
            refine wp_skip ?_
            refine out_then_normal ?_
            refine wp_seq ?_
            refine wp_block ?_
            obtain ⟨g1, h⟩ := grd_some h
            refine sym_seq lay_ok mixed [(3, { g := 6 })] [2, 6, 7, 29, 30, 31, 12, 11] [6] (⟨[(2, iv (limit)), (6, .gr 0), (7, .gr 1), (29, .sl 1001), (30, iv (((r3.1.length : Nat) : Int))), (31, iv (b1.1)), (12, .own 6 0), (11, iv (b1.1))], ⟨[(6, .blk 25 [iv ((((r3.1.getD (Int.toNat b1.1) default).flow).lo)), iv ((((r3.1.getD (Int.toNat b1.1) default).flow).hi)), iv ((((r3.1.getD (Int.toNat b1.1) default).warm).lo)), iv ((((r3.1.getD (Int.toNat b1.1) default).warm).hi))])], ((1001, (wQZ r3.1)) :: (stream_Warm_R l)), [(0, ⟨3, 1, b1.2.1.length, b1.2.1.flatMap (fun x => [.int .i64 x])⟩), (1, ⟨3, 1, b1.2.2.length, b1.2.2.flatMap (fun x => [.int .i64 x])⟩)]⟩⟩) [.idx b1.1 r3.1.length, .idx b1.1 r3.1.length] S (by kernel_rfl) (by kernel_rfl) (by kernel_rfl) ⟨g1, g1, trivial⟩ ?_
            clear S; intro E a w S
            refine wp_seq ?_
            refine sym_seq lay_ok mixed [] [2, 6, 7, 29, 30, 31, 12, 11, 40] [6] (⟨[(2, iv (limit)), (6, .gr 0), (7, .gr 1), (29, .sl 1001), (30, iv (((r3.1.length : Nat) : Int))), (31, iv (b1.1)), (12, .own 6 0), (11, iv (b1.1)), (40, .v (.bool (decide (limit < (((r3.1.getD (Int.toNat b1.1) default).warm).lo)))))], ⟨[(6, .blk 25 [iv ((((r3.1.getD (Int.toNat b1.1) default).flow).lo)), iv ((((r3.1.getD (Int.toNat b1.1) default).flow).hi)), iv ((((r3.1.getD (Int.toNat b1.1) default).warm).lo)), iv ((((r3.1.getD (Int.toNat b1.1) default).warm).hi))])], ((1001, (wQZ r3.1)) :: (stream_Warm_R l)), [(0, ⟨3, 1, b1.2.1.length, b1.2.1.flatMap (fun x => [.int .i64 x])⟩), (1, ⟨3, 1, b1.2.2.length, b1.2.2.flatMap (fun x => [.int .i64 x])⟩)]⟩⟩) [] S (by kernel_rfl) (by kernel_rfl) (by kernel_rfl) trivial ?_
            clear S; intro E a w S
            obtain ⟨j1, e5, h⟩ := bind_some h
            refine sym_meet_last (b := decide (limit < (((r3.1.getD (Int.toNat b1.1) default).warm).lo))) (⟨[(2, iv (limit)), (7, .gr 1), (29, .sl 1001), (30, iv (((r3.1.length : Nat) : Int))), (31, iv (b1.1)), (12, .own 6 0), (11, iv (b1.1)), (6, .gr 0)], ⟨[(6, .blk 25 [iv ((((r3.1.getD (Int.toNat b1.1) default).flow).lo)), iv ((((r3.1.getD (Int.toNat b1.1) default).flow).hi)), iv ((((r3.1.getD (Int.toNat b1.1) default).warm).lo)), iv ((((r3.1.getD (Int.toNat b1.1) default).warm).hi))])], ((1001, (wQZ r3.1)) :: (stream_Warm_R l)), [(0, ⟨3, 1, j1.length, j1.flatMap (fun x => [.int .i64 x])⟩), (1, ⟨3, 1, b1.2.2.length, b1.2.2.flatMap (fun x => [.int .i64 x])⟩)]⟩⟩) S rfl (fun hb5 => ?_) (fun hb5 => ?_) ?_
            · clear h; have h := bif_t hb5 e5
              obtain ⟨g2, h⟩ := grd_some h
              refine sym_open_last ?_
              refine sym_runP lay_ok [(2, { g := 8 })] 0 3 [2, 6, 7, 29, 30, 31, 12, 11, 41, 43] [6, 8] (⟨[(2, iv (limit)), (6, .gr 0), (7, .gr 1), (29, .sl 1001), (30, iv (((r3.1.length : Nat) : Int))), (31, iv (b1.1)), (12, .own 6 0), (11, iv (b1.1)), (41, .gr 0), (43, .row 8 0 1 1)], ⟨[(6, .blk 25 [iv ((((r3.1.getD (Int.toNat b1.1) default).flow).lo)), iv ((((r3.1.getD (Int.toNat b1.1) default).flow).hi)), iv ((((r3.1.getD (Int.toNat b1.1) default).warm).lo)), iv ((((r3.1.getD (Int.toNat b1.1) default).warm).hi))]), (8, .blk 3 [iv (b1.1)])], ((1001, (wQZ r3.1)) :: (stream_Warm_R l)), [(0, ⟨3, 1, b1.2.1.length, b1.2.1.flatMap (fun x => [.int .i64 x])⟩), (1, ⟨3, 1, b1.2.2.length, b1.2.2.flatMap (fun x => [.int .i64 x])⟩)]⟩⟩) [] S (by kernel_rfl) (by kernel_rfl) trivial ?_
              clear S; intro E a w S
              refine sym_append lay_ok rfl (.tmp 41) (.tmp 43) 33 rfl rfl S 0 8 0 1 1 3 [iv (b1.1)] ⟨3, 1, b1.2.1.length, b1.2.1.flatMap (fun x => [.int .i64 x])⟩ ⟨.int .i64, 1, [.int .i64 0], false, 8⟩ ⟨.sli 3 1, 1, [.slice none 0 0], false, 24⟩ rfl rfl rfl rfl rfl rfl rfl rfl (show 0 < 1 by decide) rfl rfl (fun e he => by cases he; exact Nat.lt_of_succ_le (Nat.le_of_ble_eq_true rfl)) ⟨3, 1, (b1.2.1 ++ [b1.1]).length, (b1.2.1 ++ [b1.1]).flatMap (fun x => [.int .i64 x])⟩ rfl rfl (by simp) (fun E => by simp [SV.vals, SV.val]) (Nat.le_trans g2 (by decide)) (show (b1.2.1.length + 1) * 8 ≤ 140737488355328 by have := g2; omega) rfl ?_
              clear S; intro v0 E a w S; have S := St.pickG S [2, 7, 29, 30, 31, 12, 11, 43, 44] [6, 8] [0, 1] (⟨[(2, iv (limit)), (7, .gr 1), (29, .sl 1001), (30, iv (((r3.1.length : Nat) : Int))), (31, iv (b1.1)), (12, .own 6 0), (11, iv (b1.1)), (43, .row 8 0 1 1), (44, .gr 0)], ⟨[(6, .blk 25 [iv ((((r3.1.getD (Int.toNat b1.1) default).flow).lo)), iv ((((r3.1.getD (Int.toNat b1.1) default).flow).hi)), iv ((((r3.1.getD (Int.toNat b1.1) default).warm).lo)), iv ((((r3.1.getD (Int.toNat b1.1) default).warm).hi))]), (8, .blk 3 [iv (b1.1)])], ((1001, (wQZ r3.1)) :: (stream_Warm_R l)), [(0, ⟨3, 1, (b1.2.1 ++ [b1.1]).length, (b1.2.1 ++ [b1.1]).flatMap (fun x => [.int .i64 x])⟩), (1, ⟨3, 1, b1.2.2.length, b1.2.2.flatMap (fun x => [.int .i64 x])⟩)]⟩⟩) (by kernel_rfl)
              refine sym_runP lay_ok [] 4 1 [2, 7, 29, 30, 31, 12, 11, 6] [6] (⟨[(2, iv (limit)), (7, .gr 1), (29, .sl 1001), (30, iv (((r3.1.length : Nat) : Int))), (31, iv (b1.1)), (12, .own 6 0), (11, iv (b1.1)), (6, .gr 0)], ⟨[(6, .blk 25 [iv ((((r3.1.getD (Int.toNat b1.1) default).flow).lo)), iv ((((r3.1.getD (Int.toNat b1.1) default).flow).hi)), iv ((((r3.1.getD (Int.toNat b1.1) default).warm).lo)), iv ((((r3.1.getD (Int.toNat b1.1) default).warm).hi))])], ((1001, (wQZ r3.1)) :: (stream_Warm_R l)), [(0, ⟨3, 1, (b1.2.1 ++ [b1.1]).length, (b1.2.1 ++ [b1.1]).flatMap (fun x => [.int .i64 x])⟩), (1, ⟨3, 1, b1.2.2.length, b1.2.2.flatMap (fun x => [.int .i64 x])⟩)]⟩⟩) [] S (by kernel_rfl) (by kernel_rfl) trivial ?_
              clear S; intro E a w S
              refine sym_done rfl ?_
              have S := St.pickG S [2, 7, 29, 30, 31, 12, 11, 6] [6] [0, 1] (⟨[(2, iv (limit)), (7, .gr 1), (29, .sl 1001), (30, iv (((r3.1.length : Nat) : Int))), (31, iv (b1.1)), (12, .own 6 0), (11, iv (b1.1)), (6, .gr 0)], ⟨[(6, .blk 25 [iv ((((r3.1.getD (Int.toNat b1.1) default).flow).lo)), iv ((((r3.1.getD (Int.toNat b1.1) default).flow).hi)), iv ((((r3.1.getD (Int.toNat b1.1) default).warm).lo)), iv ((((r3.1.getD (Int.toNat b1.1) default).warm).hi))])], ((1001, (wQZ r3.1)) :: (stream_Warm_R l)), [(0, ⟨3, 1, (b1.2.1 ++ [b1.1]).length, (b1.2.1 ++ [b1.1]).flatMap (fun x => [.int .i64 x])⟩), (1, ⟨3, 1, b1.2.2.length, b1.2.2.flatMap (fun x => [.int .i64 x])⟩)]⟩⟩) (by kernel_rfl)
              have hj := Option.some.inj h
              subst hj
              refine out_then_normal ?_
              exact ⟨_, St.cast (P := Go.Proofs.Try.prog) [] [] [2, 7, 29, 30, 31, 12, 11, 6] [6] [1001, 0] _ [] (by kernel_rfl) trivial S⟩
            · clear h; have h := bif_f hb5 e5
              refine wp_skip ?_
              have hj := Option.some.inj h
              subst hj
              refine out_then_normal ?_
              exact ⟨_, St.cast (P := Go.Proofs.Try.prog) [] [] [2, 7, 29, 30, 31, 12, 11, 6] [6] [1001, 0] _ [] (by kernel_rfl) trivial S⟩
            clear S; intro E a w S
            refine out_then_normal ?_
            refine sym_seq lay_ok mixed [] [2, 7, 29, 30, 31, 11, 6, 49] [] (⟨[(2, iv (limit)), (7, .gr 1), (29, .sl 1001), (30, iv (((r3.1.length : Nat) : Int))), (31, iv (b1.1)), (11, iv (b1.1)), (6, .gr 0), (49, .v (.bool (decide (limit < (((r3.1.getD (Int.toNat b1.1) default).warm).hi)))))], ⟨[], ((1001, (wQZ r3.1)) :: (stream_Warm_R l)), [(0, ⟨3, 1, j1.length, j1.flatMap (fun x => [.int .i64 x])⟩), (1, ⟨3, 1, b1.2.2.length, b1.2.2.flatMap (fun x => [.int .i64 x])⟩)]⟩⟩) [] S (by kernel_rfl) (by kernel_rfl) (by kernel_rfl) trivial ?_
            clear S; intro E a w S
            refine sym_if_last (b := decide (limit < (((r3.1.getD (Int.toNat b1.1) default).warm).hi))) S rfl (fun hb6 => ?_) (fun hb6 => ?_)
            · have h := bif_t hb6 h
              obtain ⟨g3, h⟩ := grd_some h
              refine sym_open_last ?_
              refine sym_runP lay_ok [(2, { g := 9 })] 0 3 [2, 7, 29, 30, 31, 6, 50, 52] [9] (⟨[(2, iv (limit)), (7, .gr 1), (29, .sl 1001), (30, iv (((r3.1.length : Nat) : Int))), (31, iv (b1.1)), (6, .gr 0), (50, .gr 1), (52, .row 9 0 1 1)], ⟨[(9, .blk 3 [iv (b1.1)])], ((1001, (wQZ r3.1)) :: (stream_Warm_R l)), [(0, ⟨3, 1, j1.length, j1.flatMap (fun x => [.int .i64 x])⟩), (1, ⟨3, 1, b1.2.2.length, b1.2.2.flatMap (fun x => [.int .i64 x])⟩)]⟩⟩) [] S (by kernel_rfl) (by kernel_rfl) trivial ?_
              clear S; intro E a w S
              refine sym_append lay_ok rfl (.tmp 50) (.tmp 52) 33 rfl rfl S 1 9 0 1 1 3 [iv (b1.1)] ⟨3, 1, b1.2.2.length, b1.2.2.flatMap (fun x => [.int .i64 x])⟩ ⟨.int .i64, 1, [.int .i64 0], false, 8⟩ ⟨.sli 3 1, 1, [.slice none 0 0], false, 24⟩ rfl rfl rfl rfl rfl rfl rfl rfl (show 0 < 1 by decide) rfl rfl (fun e he => by cases he; exact Nat.lt_of_succ_le (Nat.le_of_ble_eq_true rfl)) ⟨3, 1, (b1.2.2 ++ [b1.1]).length, (b1.2.2 ++ [b1.1]).flatMap (fun x => [.int .i64 x])⟩ rfl rfl (by simp) (fun E => by simp [SV.vals, SV.val]) (Nat.le_trans g3 (by decide)) (show (b1.2.2.length + 1) * 8 ≤ 140737488355328 by have := g3; omega) rfl ?_
              clear S; intro v0 E a w S; have S := St.pickG S [2, 29, 30, 31, 6, 52, 53] [9] [0, 1] (⟨[(2, iv (limit)), (29, .sl 1001), (30, iv (((r3.1.length : Nat) : Int))), (31, iv (b1.1)), (6, .gr 0), (52, .row 9 0 1 1), (53, .gr 1)], ⟨[(9, .blk 3 [iv (b1.1)])], ((1001, (wQZ r3.1)) :: (stream_Warm_R l)), [(0, ⟨3, 1, j1.length, j1.flatMap (fun x => [.int .i64 x])⟩), (1, ⟨3, 1, (b1.2.2 ++ [b1.1]).length, (b1.2.2 ++ [b1.1]).flatMap (fun x => [.int .i64 x])⟩)]⟩⟩) (by kernel_rfl)
              refine sym_runP lay_ok [] 4 1 [2, 29, 30, 31, 6, 7] [] (⟨[(2, iv (limit)), (29, .sl 1001), (30, iv (((r3.1.length : Nat) : Int))), (31, iv (b1.1)), (6, .gr 0), (7, .gr 1)], ⟨[], ((1001, (wQZ r3.1)) :: (stream_Warm_R l)), [(0, ⟨3, 1, j1.length, j1.flatMap (fun x => [.int .i64 x])⟩), (1, ⟨3, 1, (b1.2.2 ++ [b1.1]).length, (b1.2.2 ++ [b1.1]).flatMap (fun x => [.int .i64 x])⟩)]⟩⟩) [] S (by kernel_rfl) (by kernel_rfl) trivial ?_
              clear S; intro E a w S
              refine sym_done rfl ?_
              have S := St.pickG S [2, 29, 30, 31, 6, 7] [] [0, 1] (⟨[(2, iv (limit)), (29, .sl 1001), (30, iv (((r3.1.length : Nat) : Int))), (31, iv (b1.1)), (6, .gr 0), (7, .gr 1)], ⟨[], ((1001, (wQZ r3.1)) :: (stream_Warm_R l)), [(0, ⟨3, 1, j1.length, j1.flatMap (fun x => [.int .i64 x])⟩), (1, ⟨3, 1, (b1.2.2 ++ [b1.1]).length, (b1.2.2 ++ [b1.1]).flatMap (fun x => [.int .i64 x])⟩)]⟩⟩) (by kernel_rfl)
              refine out_block_normal ?_
              refine out_then_normal ?_
              obtain ⟨g4, h⟩ := grd_some h
              refine sym_last lay_ok mixed [] [2, 29, 30, 31, 6, 7] [] (⟨[(2, iv (limit)), (29, .sl 1001), (30, iv (((r3.1.length : Nat) : Int))), (31, iv ((b1.1 + 1))), (6, .gr 0), (7, .gr 1)], ⟨[], ((1001, (wQZ r3.1)) :: (stream_Warm_R l)), [(0, ⟨3, 1, j1.length, j1.flatMap (fun x => [.int .i64 x])⟩), (1, ⟨3, 1, (b1.2.2 ++ [b1.1]).length, (b1.2.2 ++ [b1.1]).flatMap (fun x => [.int .i64 x])⟩)]⟩⟩) [.rng .i64 (b1.1 + 1)] S (by kernel_rfl) (by kernel_rfl) (by kernel_rfl) ⟨rngI64 g4, trivial⟩ ?_
              clear S; intro E a w S
              refine out_then_normal ?_
              exact ih ((b1.1 + 1), j1, (b1.2.2 ++ [b1.1])) _ _ _ h (St.cast (P := Go.Proofs.Try.prog) [] [] [2, 6, 7, 29, 30, 31] [] [1001, 0] _ [] (by kernel_rfl) trivial S)
            · have h := bif_f hb6 h
              refine wp_skip ?_
              refine out_block_normal ?_
              refine out_then_normal ?_
              obtain ⟨g5, h⟩ := grd_some h
              refine sym_last lay_ok mixed [] [2, 7, 29, 30, 31, 6] [] (⟨[(2, iv (limit)), (7, .gr 1), (29, .sl 1001), (30, iv (((r3.1.length : Nat) : Int))), (31, iv ((b1.1 + 1))), (6, .gr 0)], ⟨[], ((1001, (wQZ r3.1)) :: (stream_Warm_R l)), [(0, ⟨3, 1, j1.length, j1.flatMap (fun x => [.int .i64 x])⟩), (1, ⟨3, 1, b1.2.2.length, b1.2.2.flatMap (fun x => [.int .i64 x])⟩)]⟩⟩) [.rng .i64 (b1.1 + 1)] S (by kernel_rfl) (by kernel_rfl) (by kernel_rfl) ⟨rngI64 g5, trivial⟩ ?_
              clear S; intro E a w S
              refine out_then_normal ?_
              exact ih ((b1.1 + 1), j1, b1.2.2) _ _ _ h (St.cast (P := Go.Proofs.Try.prog) [] [] [2, 6, 7, 29, 30, 31] [] [1001, 0] _ [] (by kernel_rfl) trivial S)
          · have h := bif_f hb4 h
            refine wp_exit ?_
            refine out_then_exit ?_
            refine out_then_exit ?_
            refine out_block_here ?_
            refine out_then_normal ?_
            have hr := Option.some.inj h
            subst hr
            exact ⟨_, (b1.2.1, b1.2.2), hp1, St.cast (P := Go.Proofs.Try.prog) [] [] [6, 7] [] [1001, 0] _ [] (by kernel_rfl) trivial S⟩
        clear e4 S
        rintro a w ⟨E, x1, h, S⟩
        rw [stream_Warm_k1] at h
        refine out_then_normal ?_
        refine sym_seq lay_ok mixed [] [6, 7, 8] [] (⟨[(6, .gr 0), (7, .gr 1), (8, iv (0))], ⟨[], ((1001, (wQZ r3.1)) :: (stream_Warm_R l)), [(0, ⟨3, 1, x1.1.length, x1.1.flatMap (fun x => [.int .i64 x])⟩), (1, ⟨3, 1, x1.2.length, x1.2.flatMap (fun x => [.int .i64 x])⟩)]⟩⟩) [] S (by kernel_rfl) (by kernel_rfl) (by kernel_rfl) trivial ?_
        clear S; intro E a w S
        refine wp_ret ?_
        have h := Option.some.inj h
        subst h
        exact sym_ret lay_ok [.gr 0, .gr 1, iv (0)] (by kernel_rfl) rfl S ⟨vfun [E.gr 0, E.gr 1], rfl, S.below rfl, vfun_one [E.gr 0, E.gr 1] ⟨(S.gr_one (k := 0) rfl), (S.gr_one (k := 1) rfl), trivial⟩, (((S.mem.gr 0 _ rfl).slice (S.gr_new rfl (k := 0) rfl) 0 (vfun [E.gr 0, E.gr 1]) rfl _ (flat_get (fun x => [.int .i64 x]) 1 (fun _ => rfl) x1.1)).and (((S.mem.gr 1 _ rfl).slice (S.gr_new rfl (k := 1) rfl) 1 (vfun [E.gr 0, E.gr 1]) rfl _ (flat_get (fun x => [.int .i64 x]) 1 (fun _ => rfl) x1.2)).and (HeldIn.true fun _ => trivial)))⟩
def wormtubref05_Warm_R (l : List MPoint) : List (Nat × Q) := [(0, (pQZ l))]
def wormtubref05_Warm_k1  (x1 : List Int × List Int) : Option (List Int × List Int × Int) :=
some (x1.1, x1.2, 0)
def wormtubref05_Warm_l1 (limit : Int) (r3 : (List MWater × Int × Int)) : Nat → (Int × List Int × List Int) → Option (Lp (List Int × List Int) (List Int × List Int × Int))
  | 0, _ => none
  | n + 1, b1 =>
    (bif decide (b1.1 < ((r3.1.length : Nat) : Int)) then
    (grd (((0 : Int) ≤ b1.1 ∧ (b1.1 : Int) < ((r3.1.length : Nat) : Int))) <|
    (bif decide (limit < (((r3.1.getD (Int.toNat b1.1) default).warm).lo)) then
    (grd ((b1.2.1.length + 1 ≤ 1000000)) <|
    some (b1.2.1 ++ [b1.1]))
    else
    (some b1.2.1)).bind fun (j1 : List Int) =>
    (bif decide (limit < (((r3.1.getD (Int.toNat b1.1) default).warm).hi)) then
    (grd ((b1.2.2.length + 1 ≤ 1000000)) <|
    grd (InI64 (b1.1 + 1)) <|
    wormtubref05_Warm_l1 limit r3 n ((b1.1 + 1), j1, (b1.2.2 ++ [b1.1])))
    else
    (grd (InI64 (b1.1 + 1)) <|
    wormtubref05_Warm_l1 limit r3 n ((b1.1 + 1), j1, b1.2.2))))
    else
    (some (Lp.done (b1.2.1, b1.2.2))))
def wormtubref05_Warm (fuel : Nat) (first : MWater) (l : List MPoint) (limit : Int) : Option (List Int × List Int × Int) :=
(wormtubref05_Water (MWater.mk (MSpan.mk first.flow.lo first.flow.hi) (MSpan.mk first.warm.lo first.warm.hi))).bind fun (r1 : Bool) =>
(bif (!r1) then
(some ([], [], 1))
else
((wormtubref05_in limit 0 100000).bind fun (r2 : Bool) =>
(bif (!r2) then
(some ([], [], 2))
else
((wormtubref05_Flow fuel (MWater.mk (MSpan.mk first.flow.lo first.flow.hi) (MSpan.mk first.warm.lo first.warm.hi)) l).bind fun (r3 : (List MWater × Int × Int)) =>
(bif (r3.2.2 != 0) then
(some ([], [], r3.2.2))
else
((wormtubref05_Warm_l1 limit r3 fuel (0, ([] : List Int), ([] : List Int))).bind fun lr1 => lr1.go fun x1 => wormtubref05_Warm_k1 x1))))))
set_option maxRecDepth 100000 in
set_option maxHeartbeats 4000000 in
theorem wormtubref05_Warm_ok (fuel : Nat) (first : MWater) (l : List MPoint) (limit : Int) (W : World) (A0 : Option Addr) (c0 : Nat) (h0 : l.length ≤ c0) (s0 : SlAt W A0 l.length 9 fun i => pZ (l.getD i default)) (res : List Int × List Int × Int) (h : wormtubref05_Warm fuel first l limit = some res) :
    Calls Go.Proofs.Try.prog 16 #[.agg #[.int .i64 first.flow.lo, .int .i64 first.flow.hi, .int .i64 first.warm.lo, .int .i64 first.warm.hi], .slice A0 l.length c0, .int .i64 limit] W fun e w' => ∃ v : Nat → Value, e = .returned (.tuple #[v 0, v 1, .int .i64 res.2.2]) ∧ Below W.heap.size W w' ∧ (∀ i, (v i).oneCell' = true) ∧ HeldIn (fun k => W.heap.size ≤ k) w' (SlicesAre 0 [(iQZ res.1), (iQZ res.2.1)] v) := by
  refine sym_call (f := 16) (fn := Go.Proofs.Try.f16) (c := Go.Proofs.Try.f16.body.get rfl) Go.Proofs.Try.func16 rfl [.agg [iv (first.flow.lo), iv (first.flow.hi), iv (first.warm.lo), iv (first.warm.hi)], .sl 0, iv (limit)] (wormtubref05_Warm_R l) [] (envOf [(0, ⟨A0, l.length, c0, 9⟩)]) allR (fun _ _ => rfl) (by kernel_rfl) (envOf_one trivial) ⟨s0.rd h0, trivial⟩ (AllRR.all _ _) trivial fun E a w S => ?_
  rw [wormtubref05_Warm] at h
  refine sym_seq lay_ok mixed [(0, { g := 0 })] [1, 2, 3] [0] (⟨[(1, .sl 0), (2, iv (limit)), (3, .own 0 0)], ⟨[(0, .blk 25 [iv (first.flow.lo), iv (first.flow.hi), iv (first.warm.lo), iv (first.warm.hi)])], (wormtubref05_Warm_R l), []⟩⟩) [] S (by kernel_rfl) (by kernel_rfl) (by kernel_rfl) trivial ?_
  clear S; intro E a w S
  refine wp_seq ?_
  obtain ⟨r1, e1, h⟩ := bind_some h
  refine sym_seq lay_ok mixed [(1, { res := .v (.bool r1) })] [1, 2, 3, 17] [0] (⟨[(1, .sl 0), (2, iv (limit)), (3, .own 0 0), (17, .v (.bool (!r1)))], ⟨[(0, .blk 25 [iv (first.flow.lo), iv (first.flow.hi), iv (first.warm.lo), iv (first.warm.hi)])], (wormtubref05_Warm_R l), []⟩⟩) [.call ⟨[], (wormtubref05_Warm_R l), []⟩ 23 [.agg [iv (first.flow.lo), iv (first.flow.hi), iv (first.warm.lo), iv (first.warm.hi)]] (.v (.bool r1))] S (by kernel_rfl) (by kernel_rfl) (by kernel_rfl) ⟨⟨enters_23, fun _ W _ hm => wormtubref05_Water_ok (MWater.mk (MSpan.mk first.flow.lo first.flow.hi) (MSpan.mk first.warm.lo first.warm.hi)) W r1 e1⟩, trivial⟩ ?_
  clear S; intro E a w S
  refine sym_if_last (b := (!r1)) S rfl (fun hb1 => ?_) (fun hb1 => ?_)
  · have h := bif_t hb1 h
    refine sym_seq lay_ok mixed [] [6, 7, 8] [] (⟨[(6, .v (.slice none 0 0)), (7, .v (.slice none 0 0)), (8, iv (1))], ⟨[], (wormtubref05_Warm_R l), []⟩⟩) [] S (by kernel_rfl) (by kernel_rfl) (by kernel_rfl) trivial ?_
    clear S; intro E a w S
    refine wp_ret ?_
    refine out_then_ret ?_
    have h := Option.some.inj h
    subst h
    exact sym_ret lay_ok [.v (.slice none 0 0), .v (.slice none 0 0), iv (1)] (by kernel_rfl) rfl S ⟨vfun [.slice none 0 0, .slice none 0 0], rfl, S.below rfl, vfun_one [.slice none 0 0, .slice none 0 0] ⟨rfl, rfl, trivial⟩, ((HeldIn.true fun _ => ⟨_, _, rfl, Nat.le_refl _, SlAt.nil⟩).and ((HeldIn.true fun _ => ⟨_, _, rfl, Nat.le_refl _, SlAt.nil⟩).and (HeldIn.true fun _ => trivial)))⟩
  · have h := bif_f hb1 h
    refine wp_skip ?_
    refine out_then_normal ?_
    refine wp_seq ?_
    obtain ⟨r2, e2, h⟩ := bind_some h
    refine sym_seq lay_ok mixed [(1, { res := .v (.bool r2) })] [1, 2, 3, 20] [0] (⟨[(1, .sl 0), (2, iv (limit)), (3, .own 0 0), (20, .v (.bool (!r2)))], ⟨[(0, .blk 25 [iv (first.flow.lo), iv (first.flow.hi), iv (first.warm.lo), iv (first.warm.hi)])], (wormtubref05_Warm_R l), []⟩⟩) [.call ⟨[], (wormtubref05_Warm_R l), []⟩ 39 [iv (limit), iv (0), iv (100000)] (.v (.bool r2))] S (by kernel_rfl) (by kernel_rfl) (by kernel_rfl) ⟨⟨enters_39, fun _ W _ hm => wormtubref05_in_ok limit 0 100000 W r2 e2⟩, trivial⟩ ?_
    clear S; intro E a w S
    refine sym_if_last (b := (!r2)) S rfl (fun hb2 => ?_) (fun hb2 => ?_)
    · have h := bif_t hb2 h
      refine sym_seq lay_ok mixed [] [6, 7, 8] [] (⟨[(6, .v (.slice none 0 0)), (7, .v (.slice none 0 0)), (8, iv (2))], ⟨[], (wormtubref05_Warm_R l), []⟩⟩) [] S (by kernel_rfl) (by kernel_rfl) (by kernel_rfl) trivial ?_
      clear S; intro E a w S
      refine wp_ret ?_
      refine out_then_ret ?_
      have h := Option.some.inj h
      subst h
      exact sym_ret lay_ok [.v (.slice none 0 0), .v (.slice none 0 0), iv (2)] (by kernel_rfl) rfl S ⟨vfun [.slice none 0 0, .slice none 0 0], rfl, S.below rfl, vfun_one [.slice none 0 0, .slice none 0 0] ⟨rfl, rfl, trivial⟩, ((HeldIn.true fun _ => ⟨_, _, rfl, Nat.le_refl _, SlAt.nil⟩).and ((HeldIn.true fun _ => ⟨_, _, rfl, Nat.le_refl _, SlAt.nil⟩).and (HeldIn.true fun _ => trivial)))⟩
    · have h := bif_f hb2 h
      refine wp_skip ?_
      refine out_then_normal ?_
      obtain ⟨r3, e3, h⟩ := bind_some h
      refine sym_seq lay_ok mixed [(2, { g := 1, res := .tup [.ltr 1 0, iv (r3.2.1), iv (r3.2.2)], hx := some (SlicesAre 0 [(wQZ r3.1)]) })] [2, 9, 11] [1] (⟨[(2, iv (limit)), (9, .ltr 1 0), (11, iv (r3.2.2))], ⟨[(1, .held (SlicesAre 0 [(wQZ r3.1)]))], (wormtubref05_Warm_R l), []⟩⟩) [.callx ⟨[], (wormtubref05_Warm_R l), []⟩ 1 14 [.agg [iv (first.flow.lo), iv (first.flow.hi), iv (first.warm.lo), iv (first.warm.hi)], .sl 0] (.tup [.ltr 1 0, iv (r3.2.1), iv (r3.2.2)]) (SlicesAre 0 [(wQZ r3.1)])] S (by kernel_rfl) (by kernel_rfl) (by kernel_rfl) ⟨⟨enters_14, fun E W _ hm => by obtain ⟨A0, c0, q0, l0, s0, _⟩ := Mem.sl hm (s := 0) rfl; simp only [SV.vals, SV.val, q0]; exact ((wormtubref05_Flow_ok fuel (MWater.mk (MSpan.mk first.flow.lo first.flow.hi) (MSpan.mk first.warm.lo first.warm.hi)) l W A0 c0 l0 s0 r3 e3).mono fun e w' hx => by obtain ⟨v, h1, h2, h3, h4⟩ := hx; exact ⟨v, h1, h2, h3, h4.mono fun _ _ h => .inl h⟩)⟩, trivial⟩ ?_
      clear S; intro E a w S
      obtain ⟨E, S⟩ := St.read 1 0 1001 (wQZ r3.1) (⟨[(2, iv (limit)), (9, .sl 1001), (11, iv (r3.2.2))], ⟨[(1, .held (SlicesAre 0 [(wQZ r3.1)]))], ((1001, (wQZ r3.1)) :: (wormtubref05_Warm_R l)), []⟩⟩) rfl (fun v w h => h.1) (by intro _ h; cases h) (by kernel_rfl) (by kernel_rfl) S
      refine wp_seq ?_
      refine sym_seq lay_ok mixed [] [2, 9, 11, 29] [] (⟨[(2, iv (limit)), (9, .sl 1001), (11, iv (r3.2.2)), (29, .v (.bool (r3.2.2 != 0)))], ⟨[], ((1001, (wQZ r3.1)) :: (wormtubref05_Warm_R l)), []⟩⟩) [] S (by kernel_rfl) (by kernel_rfl) (by kernel_rfl) trivial ?_
      clear S; intro E a w S
      refine sym_if_last (b := (r3.2.2 != 0)) S rfl (fun hb3 => ?_) (fun hb3 => ?_)
      · have h := bif_t hb3 h
        refine sym_seq lay_ok mixed [] [6, 7, 8] [] (⟨[(6, .v (.slice none 0 0)), (7, .v (.slice none 0 0)), (8, iv (r3.2.2))], ⟨[], ((1001, (wQZ r3.1)) :: (wormtubref05_Warm_R l)), []⟩⟩) [] S (by kernel_rfl) (by kernel_rfl) (by kernel_rfl) trivial ?_
        clear S; intro E a w S
        refine wp_ret ?_
        refine out_then_ret ?_
        have h := Option.some.inj h
        subst h
        exact sym_ret lay_ok [.v (.slice none 0 0), .v (.slice none 0 0), iv (r3.2.2)] (by kernel_rfl) rfl S ⟨vfun [.slice none 0 0, .slice none 0 0], rfl, S.below rfl, vfun_one [.slice none 0 0, .slice none 0 0] ⟨rfl, rfl, trivial⟩, ((HeldIn.true fun _ => ⟨_, _, rfl, Nat.le_refl _, SlAt.nil⟩).and ((HeldIn.true fun _ => ⟨_, _, rfl, Nat.le_refl _, SlAt.nil⟩).and (HeldIn.true fun _ => trivial)))⟩
      · have h := bif_f hb3 h
        refine wp_skip ?_
        refine out_then_normal ?_
        refine sym_seq lay_ok mixed [] [2, 9, 12, 13] [] (⟨[(2, iv (limit)), (9, .sl 1001), (12, .v (.slice none 0 0)), (13, .v (.slice none 0 0))], ⟨[], ((1001, (wQZ r3.1)) :: (wormtubref05_Warm_R l)), []⟩⟩) [] S (by kernel_rfl) (by kernel_rfl) (by kernel_rfl) trivial ?_
        clear S; intro E a w S
        refine wp_seq ?_
        refine sym_seq lay_ok mixed [] [2, 9, 12, 13, 14] [] (⟨[(2, iv (limit)), (9, .sl 1001), (12, .v (.slice none 0 0)), (13, .v (.slice none 0 0)), (14, iv (0))], ⟨[], ((1001, (wQZ r3.1)) :: (wormtubref05_Warm_R l)), []⟩⟩) [] S (by kernel_rfl) (by kernel_rfl) (by kernel_rfl) trivial ?_
        clear S; intro E a w S
        have S := S.nilgr 0 3 1
        have S := S.reslot (t := 12) (sv' := .gr 0) rfl (by simp [SV.val, SV.subG, Env.updG_same])
        obtain ⟨E, S⟩ : ∃ E, St ⟨W, noC, Go.Proofs.Try.f16.ntmps, [], allR, noρ, (envOf [(0, ⟨A0, l.length, c0, 9⟩)]).sl, (envOf [(0, ⟨A0, l.length, c0, 9⟩)]).x⟩ (⟨[(2, iv (limit)), (9, .sl 1001), (12, .gr 0), (13, .v (.slice none 0 0)), (14, iv (0))], ⟨[], ((1001, (wQZ r3.1)) :: (wormtubref05_Warm_R l)), [(0, ⟨3, 1, ([] : List Int).length, ([] : List Int).flatMap (fun x => [.int .i64 x])⟩)]⟩⟩) E a w := ⟨_, St.pickG S [2, 9, 12, 13, 14] [] [0] (⟨[(2, iv (limit)), (9, .sl 1001), (12, .gr 0), (13, .v (.slice none 0 0)), (14, iv (0))], ⟨[], ((1001, (wQZ r3.1)) :: (wormtubref05_Warm_R l)), [(0, ⟨3, 1, ([] : List Int).length, ([] : List Int).flatMap (fun x => [.int .i64 x])⟩)]⟩⟩) (by kernel_rfl)⟩
        have S := S.nilgr 1 3 1
        have S := S.reslot (t := 13) (sv' := .gr 1) rfl (by simp [SV.val, SV.subG, Env.updG_same])
        obtain ⟨E, S⟩ : ∃ E, St ⟨W, noC, Go.Proofs.Try.f16.ntmps, [], allR, noρ, (envOf [(0, ⟨A0, l.length, c0, 9⟩)]).sl, (envOf [(0, ⟨A0, l.length, c0, 9⟩)]).x⟩ (⟨[(2, iv (limit)), (9, .sl 1001), (12, .gr 0), (13, .gr 1), (14, iv (0))], ⟨[], ((1001, (wQZ r3.1)) :: (wormtubref05_Warm_R l)), [(0, ⟨3, 1, ([] : List Int).length, ([] : List Int).flatMap (fun x => [.int .i64 x])⟩), (1, ⟨3, 1, ([] : List Int).length, ([] : List Int).flatMap (fun x => [.int .i64 x])⟩)]⟩⟩) E a w := ⟨_, St.pickG S [2, 9, 12, 13, 14] [] [0, 1] (⟨[(2, iv (limit)), (9, .sl 1001), (12, .gr 0), (13, .gr 1), (14, iv (0))], ⟨[], ((1001, (wQZ r3.1)) :: (wormtubref05_Warm_R l)), [(0, ⟨3, 1, ([] : List Int).length, ([] : List Int).flatMap (fun x => [.int .i64 x])⟩), (1, ⟨3, 1, ([] : List Int).length, ([] : List Int).flatMap (fun x => [.int .i64 x])⟩)]⟩⟩) (by kernel_rfl)⟩
        obtain ⟨lr1, e4, hp1⟩ := bind_some h
        clear h
        refine sym_block_last (G := fun a w => ∃ E, ∃ x1 : List Int × List Int, wormtubref05_Warm_k1 x1 = some res ∧ St ⟨W, noC, Go.Proofs.Try.f16.ntmps, [], allR, noρ, (envOf [(0, ⟨A0, l.length, c0, 9⟩)]).sl, (envOf [(0, ⟨A0, l.length, c0, 9⟩)]).x⟩ (⟨[(12, .gr 0), (13, .gr 1)], ⟨[], ((1001, (wQZ r3.1)) :: (wormtubref05_Warm_R l)), [(0, ⟨3, 1, x1.1.length, x1.1.flatMap (fun x => [.int .i64 x])⟩), (1, ⟨3, 1, x1.2.length, x1.2.flatMap (fun x => [.int .i64 x])⟩)]⟩⟩) E a w) ?_ ?_
        · refine wp_loop_rounds fuel ?_
          refine sym_rounds (F := fun n b1 => wormtubref05_Warm_l1 limit r3 n b1 = some lr1) (H := fun b1 => ⟨[(2, iv (limit)), (9, .sl 1001), (12, .gr 0), (13, .gr 1), (14, iv (b1.1))], ⟨[], ((1001, (wQZ r3.1)) :: (wormtubref05_Warm_R l)), [(0, ⟨3, 1, b1.2.1.length, b1.2.1.flatMap (fun x => [.int .i64 x])⟩), (1, ⟨3, 1, b1.2.2.length, b1.2.2.flatMap (fun x => [.int .i64 x])⟩)]⟩⟩) (0, ([] : List Int), ([] : List Int)) (fun b hb => by have hb : none = some lr1 := hb; cases hb) ?_ _ _ _ _ e4 (St.cast (P := Go.Proofs.Try.prog) [] [] [2, 9, 12, 13, 14] [] [1001, 0] _ [] (by kernel_rfl) trivial S)
          clear e4 S
          intro n b1 E a w h ih S
          rw [wormtubref05_Warm_l1] at h
          refine wp_seq ?_
          refine sym_seq lay_ok mixed [] [2, 9, 12, 13, 14, 34] [] (⟨[(2, iv (limit)), (9, .sl 1001), (12, .gr 0), (13, .gr 1), (14, iv (b1.1)), (34, .v (.bool (decide (b1.1 < ((r3.1.length : Nat) : Int)))))], ⟨[], ((1001, (wQZ r3.1)) :: (wormtubref05_Warm_R l)), [(0, ⟨3, 1, b1.2.1.length, b1.2.1.flatMap (fun x => [.int .i64 x])⟩), (1, ⟨3, 1, b1.2.2.length, b1.2.2.flatMap (fun x => [.int .i64 x])⟩)]⟩⟩) [] S (by kernel_rfl) (by kernel_rfl) (by kernel_rfl) trivial ?_
          clear S; intro E a w S
          refine sym_if_last (b := decide (b1.1 < ((r3.1.length : Nat) : Int))) S rfl (fun hb4 => ?_) (fun hb4 => ?_)
          · have h := bif_t hb4 h
            refine wp_skip ?_
            refine out_then_normal ?_
            refine wp_seq ?_
            refine wp_block ?_
            refine wp_seq ?_
            obtain ⟨g1, h⟩ := grd_some h
            refine sym_seq lay_ok mixed [] [2, 9, 12, 13, 14, 44] [] (⟨[(2, iv (limit)), (9, .sl 1001), (12, .gr 0), (13, .gr 1), (14, iv (b1.1)), (44, .v (.bool (decide (limit < (((r3.1.getD (Int.toNat b1.1) default).warm).lo)))))], ⟨[], ((1001, (wQZ r3.1)) :: (wormtubref05_Warm_R l)), [(0, ⟨3, 1, b1.2.1.length, b1.2.1.flatMap (fun x => [.int .i64 x])⟩), (1, ⟨3, 1, b1.2.2.length, b1.2.2.flatMap (fun x => [.int .i64 x])⟩)]⟩⟩) [.idx b1.1 r3.1.length, .idx b1.1 r3.1.length, .idx b1.1 r3.1.length, .idx b1.1 r3.1.length] S (by kernel_rfl) (by kernel_rfl) (by kernel_rfl) ⟨g1, g1, g1, g1, trivial⟩ ?_
            clear S; intro E a w S
            obtain ⟨j1, e5, h⟩ := bind_some h
            refine sym_meet_last (b := decide (limit < (((r3.1.getD (Int.toNat b1.1) default).warm).lo))) (⟨[(2, iv (limit)), (9, .sl 1001), (13, .gr 1), (14, iv (b1.1)), (12, .gr 0)], ⟨[], ((1001, (wQZ r3.1)) :: (wormtubref05_Warm_R l)), [(0, ⟨3, 1, j1.length, j1.flatMap (fun x => [.int .i64 x])⟩), (1, ⟨3, 1, b1.2.2.length, b1.2.2.flatMap (fun x => [.int .i64 x])⟩)]⟩⟩) S rfl (fun hb5 => ?_) (fun hb5 => ?_) ?_
            · clear h; have h := bif_t hb5 e5
              obtain ⟨g2, h⟩ := grd_some h
              refine sym_open_last ?_
              refine sym_runP lay_ok [(2, { g := 6 })] 0 3 [2, 9, 12, 13, 14, 45, 47] [6] (⟨[(2, iv (limit)), (9, .sl 1001), (12, .gr 0), (13, .gr 1), (14, iv (b1.1)), (45, .gr 0), (47, .row 6 0 1 1)], ⟨[(6, .blk 3 [iv (b1.1)])], ((1001, (wQZ r3.1)) :: (wormtubref05_Warm_R l)), [(0, ⟨3, 1, b1.2.1.length, b1.2.1.flatMap (fun x => [.int .i64 x])⟩), (1, ⟨3, 1, b1.2.2.length, b1.2.2.flatMap (fun x => [.int .i64 x])⟩)]⟩⟩) [] S (by kernel_rfl) (by kernel_rfl) trivial ?_
              clear S; intro E a w S
              refine sym_append lay_ok rfl (.tmp 45) (.tmp 47) 33 rfl rfl S 0 6 0 1 1 3 [iv (b1.1)] ⟨3, 1, b1.2.1.length, b1.2.1.flatMap (fun x => [.int .i64 x])⟩ ⟨.int .i64, 1, [.int .i64 0], false, 8⟩ ⟨.sli 3 1, 1, [.slice none 0 0], false, 24⟩ rfl rfl rfl rfl rfl rfl rfl rfl (show 0 < 1 by decide) rfl rfl (fun e he => by cases he; exact Nat.lt_of_succ_le (Nat.le_of_ble_eq_true rfl)) ⟨3, 1, (b1.2.1 ++ [b1.1]).length, (b1.2.1 ++ [b1.1]).flatMap (fun x => [.int .i64 x])⟩ rfl rfl (by simp) (fun E => by simp [SV.vals, SV.val]) (Nat.le_trans g2 (by decide)) (show (b1.2.1.length + 1) * 8 ≤ 140737488355328 by have := g2; omega) rfl ?_
              clear S; intro v0 E a w S; have S := St.pickG S [2, 9, 13, 14, 47, 48] [6] [0, 1] (⟨[(2, iv (limit)), (9, .sl 1001), (13, .gr 1), (14, iv (b1.1)), (47, .row 6 0 1 1), (48, .gr 0)], ⟨[(6, .blk 3 [iv (b1.1)])], ((1001, (wQZ r3.1)) :: (wormtubref05_Warm_R l)), [(0, ⟨3, 1, (b1.2.1 ++ [b1.1]).length, (b1.2.1 ++ [b1.1]).flatMap (fun x => [.int .i64 x])⟩), (1, ⟨3, 1, b1.2.2.length, b1.2.2.flatMap (fun x => [.int .i64 x])⟩)]⟩⟩) (by kernel_rfl)
              refine sym_runP lay_ok [] 4 1 [2, 9, 13, 14, 12] [] (⟨[(2, iv (limit)), (9, .sl 1001), (13, .gr 1), (14, iv (b1.1)), (12, .gr 0)], ⟨[], ((1001, (wQZ r3.1)) :: (wormtubref05_Warm_R l)), [(0, ⟨3, 1, (b1.2.1 ++ [b1.1]).length, (b1.2.1 ++ [b1.1]).flatMap (fun x => [.int .i64 x])⟩), (1, ⟨3, 1, b1.2.2.length, b1.2.2.flatMap (fun x => [.int .i64 x])⟩)]⟩⟩) [] S (by kernel_rfl) (by kernel_rfl) trivial ?_
              clear S; intro E a w S
              refine sym_done rfl ?_
              have S := St.pickG S [2, 9, 13, 14, 12] [] [0, 1] (⟨[(2, iv (limit)), (9, .sl 1001), (13, .gr 1), (14, iv (b1.1)), (12, .gr 0)], ⟨[], ((1001, (wQZ r3.1)) :: (wormtubref05_Warm_R l)), [(0, ⟨3, 1, (b1.2.1 ++ [b1.1]).length, (b1.2.1 ++ [b1.1]).flatMap (fun x => [.int .i64 x])⟩), (1, ⟨3, 1, b1.2.2.length, b1.2.2.flatMap (fun x => [.int .i64 x])⟩)]⟩⟩) (by kernel_rfl)
              have hj := Option.some.inj h
              subst hj
              refine out_then_normal ?_
              exact ⟨_, St.cast (P := Go.Proofs.Try.prog) [] [] [2, 9, 13, 14, 12] [] [1001, 0] _ [] (by kernel_rfl) trivial S⟩
            · clear h; have h := bif_f hb5 e5
              refine wp_skip ?_
              have hj := Option.some.inj h
              subst hj
              refine out_then_normal ?_
              exact ⟨_, St.cast (P := Go.Proofs.Try.prog) [] [] [2, 9, 13, 14, 12] [] [1001, 0] _ [] (by kernel_rfl) trivial S⟩
            clear S; intro E a w S
            refine out_then_normal ?_
            refine sym_seq lay_ok mixed [] [2, 9, 13, 14, 12, 56] [] (⟨[(2, iv (limit)), (9, .sl 1001), (13, .gr 1), (14, iv (b1.1)), (12, .gr 0), (56, .v (.bool (decide (limit < (((r3.1.getD (Int.toNat b1.1) default).warm).hi)))))], ⟨[], ((1001, (wQZ r3.1)) :: (wormtubref05_Warm_R l)), [(0, ⟨3, 1, j1.length, j1.flatMap (fun x => [.int .i64 x])⟩), (1, ⟨3, 1, b1.2.2.length, b1.2.2.flatMap (fun x => [.int .i64 x])⟩)]⟩⟩) [.idx b1.1 r3.1.length, .idx b1.1 r3.1.length, .idx b1.1 r3.1.length, .idx b1.1 r3.1.length] S (by kernel_rfl) (by kernel_rfl) (by kernel_rfl) ⟨g1, g1, g1, g1, trivial⟩ ?_
            clear S; intro E a w S
            refine sym_if_last (b := decide (limit < (((r3.1.getD (Int.toNat b1.1) default).warm).hi))) S rfl (fun hb6 => ?_) (fun hb6 => ?_)
            · have h := bif_t hb6 h
              obtain ⟨g3, h⟩ := grd_some h
              refine sym_open_last ?_
              refine sym_runP lay_ok [(2, { g := 7 })] 0 3 [2, 9, 13, 14, 12, 57, 59] [7] (⟨[(2, iv (limit)), (9, .sl 1001), (13, .gr 1), (14, iv (b1.1)), (12, .gr 0), (57, .gr 1), (59, .row 7 0 1 1)], ⟨[(7, .blk 3 [iv (b1.1)])], ((1001, (wQZ r3.1)) :: (wormtubref05_Warm_R l)), [(0, ⟨3, 1, j1.length, j1.flatMap (fun x => [.int .i64 x])⟩), (1, ⟨3, 1, b1.2.2.length, b1.2.2.flatMap (fun x => [.int .i64 x])⟩)]⟩⟩) [] S (by kernel_rfl) (by kernel_rfl) trivial ?_
              clear S; intro E a w S
              refine sym_append lay_ok rfl (.tmp 57) (.tmp 59) 33 rfl rfl S 1 7 0 1 1 3 [iv (b1.1)] ⟨3, 1, b1.2.2.length, b1.2.2.flatMap (fun x => [.int .i64 x])⟩ ⟨.int .i64, 1, [.int .i64 0], false, 8⟩ ⟨.sli 3 1, 1, [.slice none 0 0], false, 24⟩ rfl rfl rfl rfl rfl rfl rfl rfl (show 0 < 1 by decide) rfl rfl (fun e he => by cases he; exact Nat.lt_of_succ_le (Nat.le_of_ble_eq_true rfl)) ⟨3, 1, (b1.2.2 ++ [b1.1]).length, (b1.2.2 ++ [b1.1]).flatMap (fun x => [.int .i64 x])⟩ rfl rfl (by simp) (fun E => by simp [SV.vals, SV.val]) (Nat.le_trans g3 (by decide)) (show (b1.2.2.length + 1) * 8 ≤ 140737488355328 by have := g3; omega) rfl ?_
              clear S; intro v0 E a w S; have S := St.pickG S [2, 9, 14, 12, 59, 60] [7] [0, 1] (⟨[(2, iv (limit)), (9, .sl 1001), (14, iv (b1.1)), (12, .gr 0), (59, .row 7 0 1 1), (60, .gr 1)], ⟨[(7, .blk 3 [iv (b1.1)])], ((1001, (wQZ r3.1)) :: (wormtubref05_Warm_R l)), [(0, ⟨3, 1, j1.length, j1.flatMap (fun x => [.int .i64 x])⟩), (1, ⟨3, 1, (b1.2.2 ++ [b1.1]).length, (b1.2.2 ++ [b1.1]).flatMap (fun x => [.int .i64 x])⟩)]⟩⟩) (by kernel_rfl)
              refine sym_runP lay_ok [] 4 1 [2, 9, 14, 12, 13] [] (⟨[(2, iv (limit)), (9, .sl 1001), (14, iv (b1.1)), (12, .gr 0), (13, .gr 1)], ⟨[], ((1001, (wQZ r3.1)) :: (wormtubref05_Warm_R l)), [(0, ⟨3, 1, j1.length, j1.flatMap (fun x => [.int .i64 x])⟩), (1, ⟨3, 1, (b1.2.2 ++ [b1.1]).length, (b1.2.2 ++ [b1.1]).flatMap (fun x => [.int .i64 x])⟩)]⟩⟩) [] S (by kernel_rfl) (by kernel_rfl) trivial ?_
              clear S; intro E a w S
              refine sym_done rfl ?_
              have S := St.pickG S [2, 9, 14, 12, 13] [] [0, 1] (⟨[(2, iv (limit)), (9, .sl 1001), (14, iv (b1.1)), (12, .gr 0), (13, .gr 1)], ⟨[], ((1001, (wQZ r3.1)) :: (wormtubref05_Warm_R l)), [(0, ⟨3, 1, j1.length, j1.flatMap (fun x => [.int .i64 x])⟩), (1, ⟨3, 1, (b1.2.2 ++ [b1.1]).length, (b1.2.2 ++ [b1.1]).flatMap (fun x => [.int .i64 x])⟩)]⟩⟩) (by kernel_rfl)
              refine out_block_normal ?_
              refine out_then_normal ?_
              obtain ⟨g4, h⟩ := grd_some h
              refine sym_last lay_ok mixed [] [2, 9, 14, 12, 13] [] (⟨[(2, iv (limit)), (9, .sl 1001), (14, iv ((b1.1 + 1))), (12, .gr 0), (13, .gr 1)], ⟨[], ((1001, (wQZ r3.1)) :: (wormtubref05_Warm_R l)), [(0, ⟨3, 1, j1.length, j1.flatMap (fun x => [.int .i64 x])⟩), (1, ⟨3, 1, (b1.2.2 ++ [b1.1]).length, (b1.2.2 ++ [b1.1]).flatMap (fun x => [.int .i64 x])⟩)]⟩⟩) [.rng .i64 (b1.1 + 1)] S (by kernel_rfl) (by kernel_rfl) (by kernel_rfl) ⟨rngI64 g4, trivial⟩ ?_
              clear S; intro E a w S
              refine out_then_normal ?_
              exact ih ((b1.1 + 1), j1, (b1.2.2 ++ [b1.1])) _ _ _ h (St.cast (P := Go.Proofs.Try.prog) [] [] [2, 9, 12, 13, 14] [] [1001, 0] _ [] (by kernel_rfl) trivial S)
            · have h := bif_f hb6 h
              refine wp_skip ?_
              refine out_block_normal ?_
              refine out_then_normal ?_
              obtain ⟨g5, h⟩ := grd_some h
              refine sym_last lay_ok mixed [] [2, 9, 13, 14, 12] [] (⟨[(2, iv (limit)), (9, .sl 1001), (13, .gr 1), (14, iv ((b1.1 + 1))), (12, .gr 0)], ⟨[], ((1001, (wQZ r3.1)) :: (wormtubref05_Warm_R l)), [(0, ⟨3, 1, j1.length, j1.flatMap (fun x => [.int .i64 x])⟩), (1, ⟨3, 1, b1.2.2.length, b1.2.2.flatMap (fun x => [.int .i64 x])⟩)]⟩⟩) [.rng .i64 (b1.1 + 1)] S (by kernel_rfl) (by kernel_rfl) (by kernel_rfl) ⟨rngI64 g5, trivial⟩ ?_
              clear S; intro E a w S
              refine out_then_normal ?_
              exact ih ((b1.1 + 1), j1, b1.2.2) _ _ _ h (St.cast (P := Go.Proofs.Try.prog) [] [] [2, 9, 12, 13, 14] [] [1001, 0] _ [] (by kernel_rfl) trivial S)
          · have h := bif_f hb4 h
            refine wp_exit ?_
            refine out_then_exit ?_
            refine out_then_exit ?_
            refine out_block_here ?_
            refine out_then_normal ?_
            have hr := Option.some.inj h
            subst hr
            exact ⟨_, (b1.2.1, b1.2.2), hp1, St.cast (P := Go.Proofs.Try.prog) [] [] [12, 13] [] [1001, 0] _ [] (by kernel_rfl) trivial S⟩
        clear e4 S
        rintro a w ⟨E, x1, h, S⟩
        rw [wormtubref05_Warm_k1] at h
        refine out_then_normal ?_
        refine sym_seq lay_ok mixed [] [6, 7, 8] [] (⟨[(6, .gr 0), (7, .gr 1), (8, iv (0))], ⟨[], ((1001, (wQZ r3.1)) :: (wormtubref05_Warm_R l)), [(0, ⟨3, 1, x1.1.length, x1.1.flatMap (fun x => [.int .i64 x])⟩), (1, ⟨3, 1, x1.2.length, x1.2.flatMap (fun x => [.int .i64 x])⟩)]⟩⟩) [] S (by kernel_rfl) (by kernel_rfl) (by kernel_rfl) trivial ?_
        clear S; intro E a w S
        refine wp_ret ?_
        have h := Option.some.inj h
        subst h
        exact sym_ret lay_ok [.gr 0, .gr 1, iv (0)] (by kernel_rfl) rfl S ⟨vfun [E.gr 0, E.gr 1], rfl, S.below rfl, vfun_one [E.gr 0, E.gr 1] ⟨(S.gr_one (k := 0) rfl), (S.gr_one (k := 1) rfl), trivial⟩, (((S.mem.gr 0 _ rfl).slice (S.gr_new rfl (k := 0) rfl) 0 (vfun [E.gr 0, E.gr 1]) rfl _ (flat_get (fun x => [.int .i64 x]) 1 (fun _ => rfl) x1.1)).and (((S.mem.gr 1 _ rfl).slice (S.gr_new rfl (k := 1) rfl) 1 (vfun [E.gr 0, E.gr 1]) rfl _ (flat_get (fun x => [.int .i64 x]) 1 (fun _ => rfl) x1.2)).and (HeldIn.true fun _ => trivial)))⟩
end Go.Proofs.Ytlcccomdijdkaaa
namespace Go.Proofs.Ytlcccomdijdkaaa
open Go.RowKit Go.Proofs.Try

theorem wpListIn_unguard {P : Program} {ops r : List Oper} {o : Oper} {a : Act} {w : World} {ro : Option Nat} {n : Nat} {Po : Exit → Act → World → Prop} (hw : Region.wanted o (yielded ops.toArray a.tmps) = true) (h : wpListIn (FW ro) n P ops.toArray Po ({ o with guard := none } :: r) a w) : wpListIn (FW ro) n P ops.toArray Po (o :: r) a w := by
  unfold wpListIn at h ⊢
  rw [if_pos hw]
  have h1 : Region.wanted { o with guard := none } (yielded ops.toArray a.tmps) = true := by simp [Region.wanted]
  rw [if_pos h1] at h
  exact h
theorem sym_unguardI {P : Program} {X : Ctx} {E : Env} {st : SState} {ops l r : List Oper} {o : Oper} {a : Act} {w : World} {ro : Option Nat} {n : Nat} {Po : Exit → Act → World → Prop} (S : St X st E a w) (hL : l = o :: r) (hw : wantB ops st.slots o = some true) (h : wpListIn (FW ro) n P ops.toArray Po ({ o with guard := none } :: r) a w) : wpListIn (FW ro) n P ops.toArray Po l a w := by
  subst hL
  exact wpListIn_unguard (wanted_ok S hw) h
/-- the points, with one more -/
def insertP (l : List MPoint) (at' heat : Int) : List MPoint := l.take at'.toNat ++ addP heat :: l.drop at'.toNat
/-- what has been handed on ahead of point i -/
def handOn (l : List MPoint) (m : MPoint) (k i : Nat) : List MPoint := if i ≤ k then l.take i else l.take k ++ m :: (l.drop k).take (i - k)
theorem handOn_next {l : List MPoint} {m : MPoint} {k i : Nat} (hi : i < l.length) (h : i ≠ k) : handOn l m k (i + 1) = handOn l m k i ++ [l.getD i default] := by
  unfold handOn
  by_cases h1 : i < k
  · rw [if_pos (by omega), if_pos (by omega), take_more hi]
  · rw [if_neg (by omega), if_neg (by omega), List.append_assoc, List.cons_append]
    have hd : i - k < (l.drop k).length := by rw [List.length_drop]; omega
    rw [show i + 1 - k = (i - k) + 1 by omega, take_more hd]
    have e : (l.drop k).getD (i - k) default = l.getD i default := by
      simp only [List.getD_eq_getElem?_getD, List.getElem?_drop]
      rw [show k + (i - k) = i by omega]
    rw [e]
theorem handOn_at {l : List MPoint} {m : MPoint} {k : Nat} (hi : k < l.length) : handOn l m k (k + 1) = (l.take k ++ [m]) ++ [l.getD k default] := by
  unfold handOn
  rw [if_neg (by omega), show k + 1 - k = 0 + 1 by omega, drop_cons hi]
  simp
theorem handOn_pre (l : List MPoint) (m : MPoint) (k i : Nat) : ∃ rest, l.take k ++ m :: l.drop k = handOn l m k i ++ rest := by
  unfold handOn
  by_cases h : i ≤ k
  · rw [if_pos h]
    refine ⟨(l.take k).drop i ++ m :: l.drop k, ?_⟩
    have e : l.take i = (l.take k).take i := by rw [List.take_take]; congr 1; omega
    rw [e, ← List.append_assoc, List.take_append_drop]
  · rw [if_neg h]
    refine ⟨(l.drop k).drop (i - k), ?_⟩
    rw [List.append_assoc, List.cons_append, List.take_append_drop]
abbrev hRds (l : List MPoint) (A : Option Addr) (cap k : Nat) (heat : Int) : List (Nat × Q) := [(0, pQ l), (1, ⟨1, 1, fun _ => [.slice A l.length cap]⟩), (2, ⟨1, 1, fun _ => [.int .i64 k]⟩), (3, ⟨1, 9, fun _ => pCells (addP heat)⟩)]
abbrev hEnv (l : List MPoint) (A : Option Addr) (cap k x y z : Nat) : Env := envOf [(0, ⟨A, l.length, cap, 9⟩), (1, ⟨some ⟨x, 0, none⟩, 1, 1, 1⟩), (2, ⟨some ⟨y, 0, none⟩, 1, 1, 1⟩), (3, ⟨some ⟨z, 0, none⟩, 1, 1, 9⟩)]
theorem hMoved {X : Ctx} {st : SState} {E : Env} {a : Act} {w w' : World} {l : List MPoint} {A : Option Addr} {cap k x y z : Nat} {heat : Int} {DD C : Nat → Prop} (S : St X st E a w) (hb : st.m.blks = []) (hg : st.m.grs = []) (hr : st.m.rds = hRds l A cap k heat) (hs : ∀ s, s < 1000 → E.sl s = (hEnv l A cap k x y z).sl s)
    (r0 : InR DD A l.length) (hx : DD x) (hy : DD y) (hz : DD z) (hC : ∀ k, C k → ¬ DD k) (hk : Kept C w w') : St ⟨w', noC, X.n, X.D, allR, E.ρ, E.sl, E.x⟩ st E a w' := by
  have one : ∀ {u b off : Nat}, (some (⟨u, 0, none⟩ : Addr)) = some ⟨b, off, none⟩ → u = b := fun h => by injection h with h1; injection h1
  refine St.seed (St.moved (S.seed hb hg C) hk (fun s q bb off hq hl hA => ?_) (fun g Φ hx => by rw [hb] at hx; simp [look] at hx) (fun k _ hc => ⟨fun ho => ?_, .inr hc⟩)) hb hg noC
  · rw [hr] at hq
    intro hc
    rcases look_cases hq with ⟨rfl, rfl⟩ | ⟨_, h2⟩
    · rw [hs 0 (by decide)] at hA
      exact hC _ hc (r0 bb off hl hA)
    · rcases look_cases h2 with ⟨rfl, rfl⟩ | ⟨_, h3⟩
      · rw [hs 1 (by decide)] at hA
        exact hC _ hc (one hA ▸ hx)
      · rcases look_cases h3 with ⟨rfl, rfl⟩ | ⟨_, h4⟩
        · rw [hs 2 (by decide)] at hA
          exact hC _ hc (one hA ▸ hy)
        · rcases look_cases h4 with ⟨rfl, rfl⟩ | ⟨_, h5⟩
          · rw [hs 3 (by decide)] at hA
            exact hC _ hc (one hA ▸ hz)
          · simp [look] at h5
  · rcases ho with ⟨g, t, cs, hx, _⟩ | ⟨j, q, hq, _⟩
    · rw [hb] at hx; simp [look] at hx
    · rw [hg] at hq; simp [look] at hq
abbrev hH (ln : Nat) (l : List MPoint) (A : Option Addr) (cap k : Nat) (heat : Int) (i : Nat) : SState := ⟨[(0, .v (.func (.yield ln) #[] #[])), (1, .at 1 0 0), (2, .at 2 0 0), (3, .at 3 0 0), (7, .sl 0), (8, .v (.int .i64 l.length)), (9, .v (.int .i64 i))], ⟨[], hRds l A cap k heat, []⟩⟩
structure HInv (ln : Nat) (l : List MPoint) (A : Option Addr) (cap k x y z : Nat) (heat : Int) (W : World) (S1 : Nat → Prop) (J : List MPoint → (Nat → Prop) → World → Prop) (m i : Nat) (E : Env) (a : Act) (wr : World) : Prop where
  st : St ⟨wr, noC, f57.ntmps, [], allR, E.ρ, E.sl, E.x⟩ (hH ln l A cap k heat i) E a wr
  sl : ∀ s, s < 1000 → E.sl s = (hEnv l A cap k x y z).sl s
  le : i ≤ l.length
  lt : l.length < i + m
  ex : ∃ S', J (handOn l (addP heat) k i) S' wr ∧ Grows S1 W S'
  sz : W.heap.size ≤ wr.heap.size
theorem at_of {w : World} {x t : Nat} {vs : List Value} {n : Nat} (h : Blk w x t vs.toArray) : SlAt w (some ⟨x, 0, none⟩) 1 n fun _ => vs := SlAt.of_blk h fun i hi j u hu => by
  have : i = 0 := by omega
  subst this
  simpa using hu

set_option maxRecDepth 100000 in
set_option maxHeartbeats 4000000 in
theorem heatedSeq (l : List MPoint) (A : Option Addr) (cap k x y z : Nat) (heat : Int) (w : World) (hl64 : (l.length : Int) ≤ 4611686018427387904) (hkl : k ≤ l.length) (h0 : l.length ≤ cap) (s0 : SlAt w A l.length 9 fun i => pCells (l.getD i default)) (bx : Blk w x 26 #[.slice A l.length cap]) (bY : Blk w y 3 #[.int .i64 k]) (bz : Blk w z 47 (pCells (addP heat)).toArray) :
    SeqT (FW none) prog 57 #[.pointer (some ⟨x, 0, none⟩), .pointer (some ⟨y, 0, none⟩), .pointer (some ⟨z, 0, none⟩)] encP (insertP l k heat) none (fun _ => False) (fun k => k < w.heap.size) (fun _ => True) w := by
  intro n ln J Jx W S1 hW hS hJ hJx hY hJ0
  refine (callsIn_wide (n := n)).2 ?_
  obtain ⟨DD, hDD⟩ : ∃ DD : Nat → Prop, DD = fun k => k < w.heap.size := ⟨_, rfl⟩
  have sW := s0.later hW
  have xW : Blk W x 26 #[.slice A l.length cap] := (hW.block x bx.lt).trans bx
  have yW : Blk W y 3 #[.int .i64 k] := (hW.block y bY.lt).trans bY
  have zW : Blk W z 47 (pCells (addP heat)).toArray := (hW.block z bz.lt).trans bz
  have rW : InR DD A l.length := fun bb off hl hA => by
    obtain ⟨b', off', hA', hlt, _⟩ := s0 hl
    rw [hA'] at hA
    have e : b' = bb := by simpa using congrArg (fun o => (o.map Addr.block).getD 0) hA
    rw [hDD]
    show bb < w.heap.size
    omega
  have dx : DD x := by rw [hDD]; exact bx.lt
  have dy : DD y := by rw [hDD]; exact bY.lt
  have dz : DD z := by rw [hDD]; exact bz.lt
  have hzW : w.heap.size ≤ W.heap.size := hW.size
  have hS1D : ∀ k, S1 k → ¬ DD k := fun k hk => by rw [hDD]; exact (hS k hk).1
  have hDs : ∀ k, DD k → k < w.heap.size := fun k hk => by rw [hDD] at hk; exact hk
  clear s0 bx bY bz hW hS hDD
  have e1 := at_of (n := 1) xW
  have e2 := at_of (n := 1) yW
  have e3 := at_of (n := 9) zW
  refine sym_enter_at (f := 57) (fn := f57) (c := f57.body.get rfl) func57 rfl [.v (.func (.yield ln) #[] #[]), .at 1 0 0, .at 2 0 0, .at 3 0 0] (hRds l A cap k heat) [] (hEnv l A cap k x y z) noC allR noρ (fun _ _ => rfl) (by kernel_rfl) (envOf_one trivial) (fun g t cs hx => by simp [look] at hx) (fun g g' t t' cs cs' hx => by simp [look] at hx) (fun g Φ hx => by simp [look] at hx)
    ⟨sW.rd h0, e1.rd (Nat.le_refl _), e2.rd (Nat.le_refl _), e3.rd (Nat.le_refl _), trivial⟩ (fun s q b off hq hl hA => ⟨trivial, fun g t cs hx => by simp [look] at hx⟩) fun a S => ?_
  refine wp_seq ?_
  refine sym_seq lay_ok mixed [] [0, 1, 2, 3, 7, 8, 9] [] (⟨[(0, .v (.func (.yield ln) #[] #[])), (1, .at 1 0 0), (2, .at 2 0 0), (3, .at 3 0 0), (7, .v (.slice A l.length cap)), (8, .v (.int .i64 l.length)), (9, .v (.int .i64 0))], ⟨[], hRds l A cap k heat, []⟩⟩) [.idx 0 1] S (by kernel_rfl) (by kernel_rfl) (by kernel_rfl) ⟨⟨by decide, by decide⟩, trivial⟩ fun E a w0 S => ?_
  have hk0 : Kept noC W w0 := S.kept
  have I0 : HInv ln l A cap k x y z heat W S1 J (l.length + 1) 0 E a w0 := by
    have hs : E.sl 0 = ⟨A, l.length, cap, 9⟩ := S.pin.2.1 0 (by decide)
    have S2 := ((S.reslot (t := 7) (sv' := .sl 0) rfl (by simp only [SV.val, hs])).pick [0, 1, 2, 3, 7, 8, 9] [] (hH ln l A cap k heat 0) rfl).seed rfl rfl noC
    exact ⟨S2, S.pin.2.1, Nat.zero_le _, by omega, ⟨S1, by unfold handOn; rw [if_pos (Nat.zero_le _), List.take_zero]; exact hJ.1 _ _ _ _ hJ0 (hk0.mono fun k _ h => h.elim), fun k h => .inl h⟩, hk0.size⟩
  clear S hk0 hJ0 e1 e2 e3 sW xW yW zW
  refine wp_block ?_
  refine wp_loop_rounds (l.length + 1) ?_
  generalize l.length + 1 = M at I0 ⊢
  have I1 : ∃ i, HInv ln l A cap k x y z heat W S1 J M i E a w0 := ⟨0, I0⟩
  clear I0
  obtain ⟨i, I0⟩ := I1
  induction M generalizing i E a w0 with
  | zero => have := I0.le; have := I0.lt; omega
  | succ M ih =>
  rw [rounds_succ]
  obtain ⟨S, hsl, hle, hlt, ⟨S', hj, hg⟩, hsz⟩ := I0
  refine sym_seq lay_ok mixed [] [0, 1, 2, 3, 7, 8, 9, 10] [] (⟨[(0, .v (.func (.yield ln) #[] #[])), (1, .at 1 0 0), (2, .at 2 0 0), (3, .at 3 0 0), (7, .sl 0), (8, .v (.int .i64 l.length)), (9, .v (.int .i64 i)), (10, .v (.bool (decide ((i : Int) < l.length))))], ⟨[], hRds l A cap k heat, []⟩⟩) [] S (by kernel_rfl) (by kernel_rfl) (by kernel_rfl) trivial fun E1 a1 w1 SA => ?_
  have hk1 : Kept noC w0 w1 := SA.kept
  have hj1 : J (handOn l (addP heat) k i) S' w1 := hJ.1 _ _ _ _ hj (hk1.mono fun k _ h => h.elim)
  have hsl1 : ∀ s, s < 1000 → E1.sl s = (hEnv l A cap k x y z).sl s := fun s hs => (SA.pin.2.1 s hs).trans (hsl s hs)
  have hsz1 : W.heap.size ≤ w1.heap.size := Nat.le_trans hsz hk1.size
  have SB : St ⟨w1, noC, f57.ntmps, [], allR, E1.ρ, E1.sl, E1.x⟩ _ E1 a1 w1 := SA.seed rfl rfl noC
  clear SA S hj hsl hk1
  refine sym_if (b := decide ((i : Int) < l.length)) SB rfl (fun hb => ?_) (fun hb => ?_)
  case refine_2 =>
    have hi : i = l.length := by have := of_decide_eq_false hb; omega
    refine wp_exit ?_
    refine out_then_exit ?_
    refine out_then_exit ?_
    refine out_block_here ?_
    refine out_then_normal ?_
    refine sym_seq lay_ok mixed [] [0, 3, 33] [] (⟨[(0, .v (.func (.yield ln) #[] #[])), (3, .at 3 0 0), (33, .v (.bool ((k : Int) == l.length)))], ⟨[], hRds l A cap k heat, []⟩⟩) [.idx 0 1, .idx 0 1] SB (by kernel_rfl) (by kernel_rfl) (by kernel_rfl) ⟨⟨by decide, by decide⟩, ⟨by decide, by decide⟩, trivial⟩ fun E2 a2 w2 SC => ?_
    have hk2 : Kept noC w1 w2 := SC.kept
    have hj2 : J (handOn l (addP heat) k i) S' w2 := hJ.1 _ _ _ _ hj1 (hk2.mono fun k _ h => h.elim)
    have hsl2 : ∀ s, s < 1000 → E2.sl s = (hEnv l A cap k x y z).sl s := fun s hs => (SC.pin.2.1 s hs).trans (hsl1 s hs)
    have hsz2 : W.heap.size ≤ w2.heap.size := Nat.le_trans hsz1 hk2.size
    have SD : St ⟨w2, noC, f57.ntmps, [], allR, E2.ρ, E2.sl, E2.x⟩ _ E2 a2 w2 := SC.seed rfl rfl noC
    clear SB SC hj1 hk2
    refine sym_if_last (b := (k : Int) == l.length) SD rfl (fun hb2 => ?_) (fun hb2 => ?_)
    case refine_2 =>
      have hkn : k < l.length := by
        have : ¬ ((k : Int) = l.length) := by simpa using hb2
        omega
      refine wp_skip ?_
      refine body_normal ?_
      refine sym_ret lay_ok [] (by kernel_rfl) rfl SD ⟨S', hg, hsz2, .inl ⟨?_, ⟨_, rfl⟩, trivial⟩⟩
      have e : insertP l k heat = handOn l (addP heat) k i := by
        unfold insertP handOn
        rw [if_neg (by omega), hi, List.take_of_length_le (l := l.drop k) (by rw [List.length_drop]; exact Nat.le_refl _)]
        rfl
      rw [e]; exact hj2
    case refine_1 =>
      have hkn : k = l.length := by
        have : (k : Int) = l.length := by simpa using hb2
        omega
      have eh : handOn l (addP heat) k i = l := by
        unfold handOn
        rw [if_pos (by omega), hi, List.take_length]
      have ei : insertP l k heat = l ++ addP heat :: [] := by
        unfold insertP
        rw [show Int.toNat (k : Int) = k from rfl, hkn, List.take_length, List.drop_length]
      refine (wpIn_wide (n := 0)).1 (sym_openI (ro := none) ?_)
      refine sym_runIP (n := 0) (ro := none) lay_ok [] 0 2 [0, 34, 35] [] (⟨[(0, .v (.func (.yield ln) #[] #[])), (34, .v (.func (.yield ln) #[] #[])), (35, .agg (pSV (addP heat)))], ⟨[], hRds l A cap k heat, []⟩⟩) [.idx 0 1] SD (by kernel_rfl) (by kernel_rfl) (by kernel_rfl) ⟨⟨by decide, by decide⟩, trivial⟩ fun E3 a3 w3 SE => ?_
      have hk3 : Kept noC w2 w3 := SE.kept
      have hj3 : J l S' w3 := by rw [← eh]; exact hJ.1 _ _ _ _ hj2 (hk3.mono fun k _ h => h.elim)
      have hsz3 : W.heap.size ≤ w3.heap.size := Nat.le_trans hsz2 hk3.size
      have t34 := SE.slot 34 _ rfl
      have t35 := SE.slot 35 _ rfl
      have hz3 : a3.tmps.size = f57.ntmps := SE.size
      have hd3 : a3.defers = [] := SE.defers
      refine sym_yield (x := .tmp 34) (y := .tmp 35) (u := .agg (pCells (addP heat)).toArray) rfl rfl (by simp [Act.eval, t34, SV.val]) (by simp [Act.eval, t35, SV.val, SV.vals]) (hY l (addP heat) [] w3 S' ei hj3 hg hsz3 _) ?_
      clear t34 t35 SE SD
      rintro e w5 ⟨S'', hg5, hk5, he5⟩
      have hgg : Grows S1 W S'' := fun k hk => by
        rcases hg5 k hk with h | h
        · exact hg k h
        · right; omega
      have hsz5 : W.heap.size ≤ w5.heap.size := Nat.le_trans hsz3 hk5.size
      obtain ⟨t, rfl, hjt⟩ : ∃ t, e = .returned (.bool t) ∧ (if t = true then J (l ++ [addP heat]) S'' w5 else Jx (l ++ [addP heat]) S'' w5) := by
        rcases he5 with ⟨rfl, h⟩ | ⟨rfl, h⟩
        · exact ⟨true, rfl, by simpa only [if_true] using h⟩
        · exact ⟨false, rfl, by simpa only [Bool.false_eq_true, if_false] using h⟩
      refine ⟨_, rfl, ?_⟩
      refine sym_doneI rfl ?_
      refine body_normal ?_
      have SZ := St.make [] (slots := []) (a := a3.put (some 36) (.bool t)) (w := w5) (n := f57.ntmps) trivial (by simp [Act.put, hz3]) hd3 trivial trivial
      refine sym_ret lay_ok [] (by kernel_rfl) rfl SZ ⟨S'', hgg, hsz5, ?_⟩
      cases t with
      | true => exact .inl ⟨by rw [ei]; simpa only [if_true] using hjt, ⟨_, rfl⟩, trivial⟩
      | false => exact .inr ⟨⟨_, rfl⟩, l ++ [addP heat], by rw [ei]; exact List.prefix_refl _, by simpa only [Bool.false_eq_true, if_false] using hjt⟩
  case refine_1 =>
    have hi : i < l.length := by have := of_decide_eq_true hb; omega
    obtain ⟨rest', hrest⟩ := handOn_pre l (addP heat) k (i + 1)
    replace hrest : insertP l k heat = handOn l (addP heat) k (i + 1) ++ rest' := hrest
    refine wp_skip ?_
    refine out_then_normal ?_
    refine wp_seq ?_
    refine wp_block ?_
    refine sym_seq lay_ok mixed [(3, { g := 0 })] [0, 1, 2, 3, 5, 6, 7, 8, 9] [0] (⟨[(0, .v (.func (.yield ln) #[] #[])), (1, .at 1 0 0), (2, .at 2 0 0), (3, .at 3 0 0), (5, .v (.int .i64 i)), (6, .own 0 0), (7, .sl 0), (8, .v (.int .i64 l.length)), (9, .v (.int .i64 i))], ⟨[(0, .blk 47 (pSV (l.getD (Int.toNat i) default)))], hRds l A cap k heat, []⟩⟩) [.idx i l.length, .idx i l.length] SB (by kernel_rfl) (by kernel_rfl) (by kernel_rfl) ⟨⟨by omega, by omega⟩, ⟨by omega, by omega⟩, trivial⟩ fun E2 a2 w2 SA => ?_
    rw [show Int.toNat (i : Int) = i from rfl] at SA
    refine wp_seq ((wpIn_wide (n := 0)).1 (sym_openI (ro := none) ?_))
    refine sym_runIP (n := 0) (ro := none) lay_ok [] 0 4 [0, 1, 2, 3, 6, 7, 8, 9, 17] [0] (⟨[(0, .v (.func (.yield ln) #[] #[])), (1, .at 1 0 0), (2, .at 2 0 0), (3, .at 3 0 0), (6, .own 0 0), (7, .sl 0), (8, .v (.int .i64 l.length)), (9, .v (.int .i64 i)), (17, .v (.bool ((i : Int) == k)))], ⟨[(0, .blk 47 (pSV (l.getD i default)))], hRds l A cap k heat, []⟩⟩) [.idx 0 1] SA (by kernel_rfl) (by kernel_rfl) (by kernel_rfl) ⟨⟨by decide, by decide⟩, trivial⟩ fun E3 a3 w3 SC => ?_
    clear SA
    by_cases hik : i = k
    · -- one more is handed on first
      have S4 := (SC.reslot (t := 17) (sv' := .v (.bool true)) rfl (by simp [SV.val, hik])).pick [0, 1, 2, 3, 6, 7, 8, 9, 17] [0] (⟨[(0, .v (.func (.yield ln) #[] #[])), (1, .at 1 0 0), (2, .at 2 0 0), (3, .at 3 0 0), (6, .own 0 0), (7, .sl 0), (8, .v (.int .i64 l.length)), (9, .v (.int .i64 i)), (17, .v (.bool true))], ⟨[(0, .blk 47 (pSV (l.getD i default)))], hRds l A cap k heat, []⟩⟩) rfl
      clear SC
      refine sym_runIP (n := 0) (ro := none) lay_ok [] 4 2 [0, 1, 2, 3, 6, 7, 8, 9, 17, 18, 19] [0] (⟨[(0, .v (.func (.yield ln) #[] #[])), (1, .at 1 0 0), (2, .at 2 0 0), (3, .at 3 0 0), (6, .own 0 0), (7, .sl 0), (8, .v (.int .i64 l.length)), (9, .v (.int .i64 i)), (17, .v (.bool true)), (18, .v (.func (.yield ln) #[] #[])), (19, .agg (pSV (addP heat)))], ⟨[(0, .blk 47 (pSV (l.getD i default)))], hRds l A cap k heat, []⟩⟩) [.idx 0 1] S4 (by kernel_rfl) (by kernel_rfl) (by kernel_rfl) ⟨⟨by decide, by decide⟩, trivial⟩ fun E5 a5 w5 S5 => ?_
      clear S4
      have hk5 : Kept noC w1 w5 := S5.kept
      have hpk : handOn l (addP heat) k i = l.take k := by unfold handOn; rw [if_pos (by omega), hik]
      have hj5 : J (l.take k) S' w5 := by rw [← hpk]; exact hJ.1 _ _ _ _ hj1 (hk5.mono fun k _ h => h.elim)
      have hsl5 : ∀ s, s < 1000 → E5.sl s = (hEnv l A cap k x y z).sl s := fun s hs => (S5.pin.2.1 s hs).trans (hsl1 s hs)
      have hsz5 : W.heap.size ≤ w5.heap.size := Nat.le_trans hsz1 hk5.size
      have hbw : w1.heap.size ≤ E5.ρ 0 := (S5.sep.base 0 _ _ rfl).resolve_right (fun h => h)
      have hS'lt : ∀ j, S' j → j < w1.heap.size := hJ.2 _ _ _ hj1
      have hSD0 : ∀ j, S' j → ¬ DD j := fun j hj h => by
        rcases hg j hj with h1 | h1
        · exact hS1D j h1 h
        · have := hDs j h; omega
      have t18 := S5.slot 18 _ rfl
      have t19 := S5.slot 19 _ rfl
      have hbl := (S5.mem.blk 0 _ _ rfl).lt
      have hxs1 : insertP l k heat = l.take k ++ addP heat :: l.drop k := rfl
      have hown : ∀ j, SState.own ((⟨[(0, .v (.func (.yield ln) #[] #[])), (1, .at 1 0 0), (2, .at 2 0 0), (3, .at 3 0 0), (6, .own 0 0), (7, .sl 0), (8, .v (.int .i64 l.length)), (9, .v (.int .i64 i)), (17, .v (.bool true)), (18, .v (.func (.yield ln) #[] #[])), (19, .agg (pSV (addP heat)))], ⟨[(0, .blk 47 (pSV (l.getD i default)))], hRds l A cap k heat, []⟩⟩ : SState)) E5 j → j = E5.ρ 0 := fun j hj => by
        rcases hj with ⟨g, t, cs, hx, rfl⟩ | ⟨j', q, hx, _⟩
        · rcases look_cases hx with ⟨rfl, _⟩ | ⟨_, h2⟩
          · rfl
          · simp [look] at h2
        · simp [look] at hx
      refine sym_unguardI S5 rfl (by kernel_rfl) ?_
      refine sym_yield (x := .tmp 18) (y := .tmp 19) (u := .agg (pCells (addP heat)).toArray) rfl rfl (by simp [Act.eval, t18, SV.val]) (by simp [Act.eval, t19, SV.val, SV.vals]) (hY (l.take k) (addP heat) (l.drop k) w5 S' hxs1 hj5 hg hsz5 _) ?_
      clear t18 t19
      rintro e w6 ⟨S2, hg6, hk6, he6⟩
      have hg2 : Grows S1 W S2 := fun j hj => by
        rcases hg6 j hj with h | h
        · exact hg j h
        · right; omega
      have hsz6 : W.heap.size ≤ w6.heap.size := Nat.le_trans hsz5 hk6.size
      have S6 := S5.rebase (fun j => j = E5.ρ 0 ∨ S' j) (fun j hj => .inl (hown j hj))
      have S7 := S6.moved hk6 (fun s q b off hq hl hA => fun hs => ?_) (fun g Φ hx => by
        rcases look_cases hx with ⟨_, h⟩ | ⟨_, h2⟩
        · cases h
        · simp [look] at h2) (fun j hj hs => ⟨fun ho => by have := hown j ho; have := hS'lt j hs; omega, .inr (.inr hs)⟩)
      · have S8 := S7.rebase (fun j => j = E5.ρ 0) (fun j hj => hown j hj)
        clear S5 S6 S7
        have hmv : ∀ j, j = E5.ρ 0 → ¬ S2 j ∧ (W.heap.size ≤ j ∨ False) := fun j hj => by
          subst hj
          refine ⟨fun hs => ?_, .inl (Nat.le_trans hsz1 hbw)⟩
          rcases hg6 _ hs with h | h
          · have := hS'lt _ h; omega
          · omega
        obtain ⟨t, rfl, hjt⟩ : ∃ t, e = .returned (.bool t) ∧ (if t = true then J (l.take k ++ [addP heat]) S2 w6 else Jx (l.take k ++ [addP heat]) S2 w6) := by
          rcases he6 with ⟨rfl, h⟩ | ⟨rfl, h⟩
          · exact ⟨true, rfl, by simpa only [if_true] using h⟩
          · exact ⟨false, rfl, by simpa only [Bool.false_eq_true, if_false] using h⟩
        clear he6
        refine ⟨_, rfl, ?_⟩
        have S9 := S8.put (d := 20) (by kernel_rfl) (.v (.bool t))
        simp only [SV.val] at S9
        generalize a5.put (some 20) (.bool t) = a6 at S9 ⊢
        clear S8
        cases t with
        | false =>
          simp only [Bool.false_eq_true, if_false] at hjt
          refine sym_runIP (n := 0) (ro := none) lay_ok [] 7 8 [0, 28] [] (⟨[(0, .v (.func (.yield ln) #[] #[])), (28, .v (.bool true))], ⟨[], hRds l A cap k heat, []⟩⟩) [] S9 (by kernel_rfl) (by kernel_rfl) (by kernel_rfl) trivial fun E7 a7 w7 SX => ?_
          refine sym_doneI rfl ?_
          refine out_then_normal ?_
          have hk7 := SX.kept
          have hj7 : Jx (l.take k ++ [addP heat]) S2 w7 := hJx.1 _ _ _ _ hjt (hk7.mono fun j _ h => hmv j h)
          refine sym_if_last (b := true) SX rfl (fun _ => ?_) (fun hb => by cases hb)
          refine wp_ret ?_
          refine out_block_ret ?_
          refine out_then_ret ?_
          refine out_then_ret ?_
          refine out_block_ret ?_
          refine out_then_ret ?_
          exact sym_ret lay_ok [] (by kernel_rfl) rfl SX ⟨S2, hg2, Nat.le_trans hsz6 hk7.size, .inr ⟨⟨_, rfl⟩, l.take k ++ [addP heat], ⟨l.drop k, by rw [hxs1]; simp⟩, hj7⟩⟩
        | true =>
          simp only [if_true] at hjt
          refine sym_runIP (n := 0) (ro := none) lay_ok [] 7 3 [0, 1, 2, 3, 6, 7, 8, 9, 23] [0] (⟨[(0, .v (.func (.yield ln) #[] #[])), (1, .at 1 0 0), (2, .at 2 0 0), (3, .at 3 0 0), (6, .own 0 0), (7, .sl 0), (8, .v (.int .i64 l.length)), (9, .v (.int .i64 i)), (23, .v (.bool false))], ⟨[(0, .blk 47 (pSV (l.getD i default)))], hRds l A cap k heat, []⟩⟩) [] S9 (by kernel_rfl) (by kernel_rfl) (by kernel_rfl) trivial fun E9 a9 w9 SY => ?_
          have hk9 := SY.kept
          have hj9 : J (l.take k ++ [addP heat]) S2 w9 := hJ.1 _ _ _ _ hjt (hk9.mono fun j _ h => hmv j h)
          have hsl9 : ∀ s, s < 1000 → E9.sl s = (hEnv l A cap k x y z).sl s := fun s hs => (SY.pin.2.1 s hs).trans (hsl5 s hs)
          have hsz9 : W.heap.size ≤ w9.heap.size := Nat.le_trans hsz6 hk9.size
          have hsame : E9.ρ 0 = E5.ρ 0 ∨ w6.heap.size ≤ E9.ρ 0 := by
            rcases SY.sep.base 0 _ _ rfl with h | h
            · exact .inr h
            · exact .inl h
          have hown9 : ∀ j, SState.own ((⟨[(0, .v (.func (.yield ln) #[] #[])), (1, .at 1 0 0), (2, .at 2 0 0), (3, .at 3 0 0), (6, .own 0 0), (7, .sl 0), (8, .v (.int .i64 l.length)), (9, .v (.int .i64 i)), (23, .v (.bool false))], ⟨[(0, .blk 47 (pSV (l.getD i default)))], hRds l A cap k heat, []⟩⟩ : SState)) E9 j → j = E9.ρ 0 := fun j hj => by
            rcases hj with ⟨g, t, cs, hx, rfl⟩ | ⟨j', q, hx, _⟩
            · rcases look_cases hx with ⟨rfl, _⟩ | ⟨_, h2⟩
              · rfl
              · simp [look] at h2
            · simp [look] at hx
          have SZ := SY.rebase (fun j => j = E9.ρ 0) (fun j hj => hown9 j hj)
          clear SY S9
          have hmv : ∀ j, j = E9.ρ 0 → ¬ S2 j ∧ (W.heap.size ≤ j ∨ False) := fun j hj => by
            subst hj
            rcases hsame with h | h
            · rw [h]; exact hmv _ rfl
            · exact ⟨fun hs => by have := hJ.2 _ _ _ hjt _ hs; omega, .inl (Nat.le_trans hsz6 h)⟩
          refine sym_runIP (n := 0) (ro := none) lay_ok [] 10 2 [0, 1, 2, 3, 7, 8, 9, 23, 24, 25] [] (⟨[(0, .v (.func (.yield ln) #[] #[])), (1, .at 1 0 0), (2, .at 2 0 0), (3, .at 3 0 0), (7, .sl 0), (8, .v (.int .i64 l.length)), (9, .v (.int .i64 i)), (23, .v (.bool false)), (24, .v (.func (.yield ln) #[] #[])), (25, .agg (pSV (l.getD i default)))], ⟨[], hRds l A cap k heat, []⟩⟩) [] SZ (by kernel_rfl) (by kernel_rfl) (by kernel_rfl) trivial fun E10 a10 w10 S10 => ?_
          have hk10 := S10.kept
          have hj10 : J (l.take k ++ [addP heat]) S2 w10 := hJ.1 _ _ _ _ hj9 (hk10.mono fun j hlt h => hmv j h)
          have hsl10 : ∀ s, s < 1000 → E10.sl s = (hEnv l A cap k x y z).sl s := fun s hs => (S10.pin.2.1 s hs).trans (hsl9 s hs)
          have hsz10 : W.heap.size ≤ w10.heap.size := Nat.le_trans hsz9 hk10.size
          have S11 : St ⟨w10, noC, f57.ntmps, [], allR, E10.ρ, E10.sl, E10.x⟩ _ E10 a10 w10 := S10.seed rfl rfl noC
          clear S10 hk10
          have hSD : ∀ k, S2 k → ¬ DD k := fun j hj h => by
            rcases hg2 j hj with h1 | h1
            · exact hS1D j h1 h
            · have := hDs j h; omega
          have t24 := S11.slot 24 _ rfl
          have t25 := S11.slot 25 _ rfl
          have hnext : handOn l (addP heat) k (i + 1) = l.take k ++ [addP heat] ++ [(l.getD i default)] := by rw [hik]; exact handOn_at (hik ▸ hi)
          have hxs2 : insertP l k heat = l.take k ++ [addP heat] ++ (l.getD i default) :: rest' := by rw [hrest, hnext]; simp
          refine sym_unguardI S11 rfl (by kernel_rfl) ?_
          refine sym_yield (x := .tmp 24) (y := .tmp 25) (u := .agg (pCells (l.getD i default)).toArray) rfl rfl (by simp [Act.eval, t24, SV.val]) (by simp [Act.eval, t25, SV.val, SV.vals]) (hY (l.take k ++ [addP heat]) (l.getD i default) rest' w10 S2 hxs2 hj10 hg2 hsz10 _) ?_
          clear t24 t25
          rintro e w5 ⟨S', hg5, hk5, he5⟩
          have hgg : Grows S1 W S' := fun j hj => by
            rcases hg5 j hj with h | h
            · exact hg2 j h
            · right; omega
          have hsz5 : W.heap.size ≤ w5.heap.size := Nat.le_trans hsz10 hk5.size
          have S6 : St ⟨w5, noC, f57.ntmps, [], allR, E10.ρ, E10.sl, E10.x⟩ _ E10 a10 w5 := hMoved S11 rfl rfl rfl hsl10 rW dx dy dz hSD hk5
          obtain ⟨t, rfl, hjt⟩ : ∃ t, e = .returned (.bool t) ∧ (if t = true then J (l.take k ++ [addP heat] ++ [(l.getD i default)]) S' w5 else Jx (l.take k ++ [addP heat] ++ [(l.getD i default)]) S' w5) := by
            rcases he5 with ⟨rfl, h⟩ | ⟨rfl, h⟩
            · exact ⟨true, rfl, by simpa only [if_true] using h⟩
            · exact ⟨false, rfl, by simpa only [Bool.false_eq_true, if_false] using h⟩
          clear he5 S11
          refine ⟨_, rfl, ?_⟩
          have S7 : St ⟨w5, noC, f57.ntmps, [], allR, E10.ρ, E10.sl, E10.x⟩ _ E10 (a10.put (some 26) (.bool t)) w5 := S6.put (d := 26) (by kernel_rfl) (.v (.bool t))
          generalize a10.put (some 26) (.bool t) = a5 at S7 ⊢
          clear S6
          refine sym_runIP (n := 0) (ro := none) lay_ok [(14, { pk := true })] 13 2 [0, 1, 2, 3, 7, 8, 9, 28] [] (⟨[(0, .v (.func (.yield ln) #[] #[])), (1, .at 1 0 0), (2, .at 2 0 0), (3, .at 3 0 0), (7, .sl 0), (8, .v (.int .i64 l.length)), (9, .v (.int .i64 i)), (28, .v (.bool (cond false true (!t))))], ⟨[], hRds l A cap k heat, []⟩⟩) [] S7 (by kernel_rfl) (by kernel_rfl) (by kernel_rfl) trivial fun E4 a6 w6 S8 => ?_
          refine sym_doneI rfl ?_
          refine out_then_normal ?_
          have hk6 : Kept noC w5 w6 := S8.kept
          have hsl6 : ∀ s, s < 1000 → E4.sl s = (hEnv l A cap k x y z).sl s := fun s hs => (S8.pin.2.1 s hs).trans (hsl10 s hs)
          have hsz6 : W.heap.size ≤ w6.heap.size := Nat.le_trans hsz5 hk6.size
          refine sym_if_last (b := cond false true (!t)) S8 rfl (fun hb => ?_) (fun hb => ?_)
          case refine_1 =>
            have ht : t = false := by simpa using hb
            subst ht
            simp only [Bool.false_eq_true, if_false] at hjt
            have hj6 : Jx (l.take k ++ [addP heat] ++ [(l.getD i default)]) S' w6 := hJx.1 _ _ _ _ hjt (hk6.mono fun k _ h => h.elim)
            refine wp_ret ?_
            refine out_block_ret ?_
            refine out_then_ret ?_
            refine out_then_ret ?_
            refine out_block_ret ?_
            refine out_then_ret ?_
            exact sym_ret lay_ok [] (by kernel_rfl) rfl S8 ⟨S', hgg, hsz6, .inr ⟨⟨_, rfl⟩, l.take k ++ [addP heat] ++ [(l.getD i default)], ⟨rest', by rw [List.append_assoc, List.singleton_append]; exact hxs2.symm⟩, hj6⟩⟩
          case refine_2 =>
            have ht : t = true := by simpa using hb
            subst ht
            simp only [if_true] at hjt
            have hj6 : J (handOn l (addP heat) k (i + 1)) S' w6 := by rw [hnext]; exact hJ.1 _ _ _ _ hjt (hk6.mono fun k _ h => h.elim)
            refine wp_skip ?_
            refine out_block_normal ?_
            refine out_then_normal ?_
            replace S8 : St ⟨w6, noC, f57.ntmps, [], allR, E4.ρ, E4.sl, E4.x⟩ _ E4 a6 w6 := S8.seed rfl rfl noC
            refine sym_last lay_ok mixed [] [0, 1, 2, 3, 7, 8, 9] [] (hH ln l A cap k heat (i + 1)) [.rng .i64 (i + 1)] S8 (by kernel_rfl) (by kernel_rfl) (by kernel_rfl) ⟨rngI64 ⟨by omega, by omega⟩, trivial⟩ fun E5 a7 w7 S9 => ?_
            refine out_then_normal ?_
            have hk7 : Kept noC w6 w7 := S9.kept
            exact ih E5 a7 w7 _ ⟨S9.seed rfl rfl noC, fun s hs => (S9.pin.2.1 s hs).trans (hsl6 s hs), by omega, by omega, ⟨S', hJ.1 _ _ _ _ hj6 (hk7.mono fun k _ h => h.elim), hgg⟩, Nat.le_trans hsz6 hk7.size⟩
      · -- the slices that it reads
        have hq' := hq
        have one : ∀ {u b off : Nat}, (some (⟨u, 0, none⟩ : Addr)) = some ⟨b, off, none⟩ → u = b := fun h => by injection h with h1; injection h1
        have hd : DD b := by
          rcases look_cases hq with ⟨rfl, rfl⟩ | ⟨_, h2⟩
          · rw [hsl5 0 (by decide)] at hA
            exact rW b off hl hA
          · rcases look_cases h2 with ⟨rfl, rfl⟩ | ⟨_, h3⟩
            · rw [hsl5 1 (by decide)] at hA
              exact one hA ▸ dx
            · rcases look_cases h3 with ⟨rfl, rfl⟩ | ⟨_, h4⟩
              · rw [hsl5 2 (by decide)] at hA
                exact one hA ▸ dy
              · rcases look_cases h4 with ⟨rfl, rfl⟩ | ⟨_, h5⟩
                · rw [hsl5 3 (by decide)] at hA
                  exact one hA ▸ dz
                · simp [look] at h5
        exact hSD0 b hs hd
    · have S4 := (SC.reslot (t := 17) (sv' := .v (.bool false)) rfl (by simp [SV.val]; omega)).pick [0, 1, 2, 3, 6, 7, 8, 9, 17] [0] (⟨[(0, .v (.func (.yield ln) #[] #[])), (1, .at 1 0 0), (2, .at 2 0 0), (3, .at 3 0 0), (6, .own 0 0), (7, .sl 0), (8, .v (.int .i64 l.length)), (9, .v (.int .i64 i)), (17, .v (.bool false))], ⟨[(0, .blk 47 (pSV (l.getD i default)))], hRds l A cap k heat, []⟩⟩) rfl
      clear SC
      refine sym_runIP (n := 0) (ro := none) lay_ok [] 4 6 [0, 1, 2, 3, 6, 7, 8, 9, 23] [0] (⟨[(0, .v (.func (.yield ln) #[] #[])), (1, .at 1 0 0), (2, .at 2 0 0), (3, .at 3 0 0), (6, .own 0 0), (7, .sl 0), (8, .v (.int .i64 l.length)), (9, .v (.int .i64 i)), (23, .v (.bool false))], ⟨[(0, .blk 47 (pSV (l.getD i default)))], hRds l A cap k heat, []⟩⟩) [] S4 (by kernel_rfl) (by kernel_rfl) (by kernel_rfl) trivial fun E9 a9 w9 SZ => ?_
      have hsl9 : ∀ s, s < 1000 → E9.sl s = (hEnv l A cap k x y z).sl s := fun s hs => (SZ.pin.2.1 s hs).trans (hsl1 s hs)
      have hmv : ∀ j, False → ¬ S' j ∧ (W.heap.size ≤ j ∨ False) := fun j h => h.elim
      clear S4
      refine sym_runIP (n := 0) (ro := none) lay_ok [] 10 2 [0, 1, 2, 3, 7, 8, 9, 23, 24, 25] [] (⟨[(0, .v (.func (.yield ln) #[] #[])), (1, .at 1 0 0), (2, .at 2 0 0), (3, .at 3 0 0), (7, .sl 0), (8, .v (.int .i64 l.length)), (9, .v (.int .i64 i)), (23, .v (.bool false)), (24, .v (.func (.yield ln) #[] #[])), (25, .agg (pSV (l.getD i default)))], ⟨[], hRds l A cap k heat, []⟩⟩) [] SZ (by kernel_rfl) (by kernel_rfl) (by kernel_rfl) trivial fun E10 a10 w10 S10 => ?_
      have hk10 := S10.kept
      have hj10 : J (handOn l (addP heat) k i) S' w10 := hJ.1 _ _ _ _ hj1 (hk10.mono fun j hlt h => hmv j h)
      have hsl10 : ∀ s, s < 1000 → E10.sl s = (hEnv l A cap k x y z).sl s := fun s hs => (S10.pin.2.1 s hs).trans (hsl1 s hs)
      have hsz10 : W.heap.size ≤ w10.heap.size := Nat.le_trans hsz1 hk10.size
      have S11 : St ⟨w10, noC, f57.ntmps, [], allR, E10.ρ, E10.sl, E10.x⟩ _ E10 a10 w10 := S10.seed rfl rfl noC
      clear S10 hk10
      have hSD : ∀ k, S' k → ¬ DD k := fun j hj h => by
        rcases hg j hj with h1 | h1
        · exact hS1D j h1 h
        · have := hDs j h; omega
      have t24 := S11.slot 24 _ rfl
      have t25 := S11.slot 25 _ rfl
      have hnext : handOn l (addP heat) k (i + 1) = handOn l (addP heat) k i ++ [(l.getD i default)] := handOn_next hi hik
      have hxs2 : insertP l k heat = handOn l (addP heat) k i ++ (l.getD i default) :: rest' := by rw [hrest, hnext]; simp
      refine sym_unguardI S11 rfl (by kernel_rfl) ?_
      refine sym_yield (x := .tmp 24) (y := .tmp 25) (u := .agg (pCells (l.getD i default)).toArray) rfl rfl (by simp [Act.eval, t24, SV.val]) (by simp [Act.eval, t25, SV.val, SV.vals]) (hY (handOn l (addP heat) k i) (l.getD i default) rest' w10 S' hxs2 hj10 hg hsz10 _) ?_
      clear t24 t25
      rintro e w5 ⟨S', hg5, hk5, he5⟩
      have hgg : Grows S1 W S' := fun j hj => by
        rcases hg5 j hj with h | h
        · exact hg j h
        · right; omega
      have hsz5 : W.heap.size ≤ w5.heap.size := Nat.le_trans hsz10 hk5.size
      have S6 : St ⟨w5, noC, f57.ntmps, [], allR, E10.ρ, E10.sl, E10.x⟩ _ E10 a10 w5 := hMoved S11 rfl rfl rfl hsl10 rW dx dy dz hSD hk5
      obtain ⟨t, rfl, hjt⟩ : ∃ t, e = .returned (.bool t) ∧ (if t = true then J (handOn l (addP heat) k i ++ [(l.getD i default)]) S' w5 else Jx (handOn l (addP heat) k i ++ [(l.getD i default)]) S' w5) := by
        rcases he5 with ⟨rfl, h⟩ | ⟨rfl, h⟩
        · exact ⟨true, rfl, by simpa only [if_true] using h⟩
        · exact ⟨false, rfl, by simpa only [Bool.false_eq_true, if_false] using h⟩
      clear he5 S11
      refine ⟨_, rfl, ?_⟩
      have S7 : St ⟨w5, noC, f57.ntmps, [], allR, E10.ρ, E10.sl, E10.x⟩ _ E10 (a10.put (some 26) (.bool t)) w5 := S6.put (d := 26) (by kernel_rfl) (.v (.bool t))
      generalize a10.put (some 26) (.bool t) = a5 at S7 ⊢
      clear S6
      refine sym_runIP (n := 0) (ro := none) lay_ok [(14, { pk := true })] 13 2 [0, 1, 2, 3, 7, 8, 9, 28] [] (⟨[(0, .v (.func (.yield ln) #[] #[])), (1, .at 1 0 0), (2, .at 2 0 0), (3, .at 3 0 0), (7, .sl 0), (8, .v (.int .i64 l.length)), (9, .v (.int .i64 i)), (28, .v (.bool (cond false true (!t))))], ⟨[], hRds l A cap k heat, []⟩⟩) [] S7 (by kernel_rfl) (by kernel_rfl) (by kernel_rfl) trivial fun E4 a6 w6 S8 => ?_
      refine sym_doneI rfl ?_
      refine out_then_normal ?_
      have hk6 : Kept noC w5 w6 := S8.kept
      have hsl6 : ∀ s, s < 1000 → E4.sl s = (hEnv l A cap k x y z).sl s := fun s hs => (S8.pin.2.1 s hs).trans (hsl10 s hs)
      have hsz6 : W.heap.size ≤ w6.heap.size := Nat.le_trans hsz5 hk6.size
      refine sym_if_last (b := cond false true (!t)) S8 rfl (fun hb => ?_) (fun hb => ?_)
      case refine_1 =>
        have ht : t = false := by simpa using hb
        subst ht
        simp only [Bool.false_eq_true, if_false] at hjt
        have hj6 : Jx (handOn l (addP heat) k i ++ [(l.getD i default)]) S' w6 := hJx.1 _ _ _ _ hjt (hk6.mono fun k _ h => h.elim)
        refine wp_ret ?_
        refine out_block_ret ?_
        refine out_then_ret ?_
        refine out_then_ret ?_
        refine out_block_ret ?_
        refine out_then_ret ?_
        exact sym_ret lay_ok [] (by kernel_rfl) rfl S8 ⟨S', hgg, hsz6, .inr ⟨⟨_, rfl⟩, handOn l (addP heat) k i ++ [(l.getD i default)], ⟨rest', by rw [List.append_assoc, List.singleton_append]; exact hxs2.symm⟩, hj6⟩⟩
      case refine_2 =>
        have ht : t = true := by simpa using hb
        subst ht
        simp only [if_true] at hjt
        have hj6 : J (handOn l (addP heat) k (i + 1)) S' w6 := by rw [hnext]; exact hJ.1 _ _ _ _ hjt (hk6.mono fun k _ h => h.elim)
        refine wp_skip ?_
        refine out_block_normal ?_
        refine out_then_normal ?_
        replace S8 : St ⟨w6, noC, f57.ntmps, [], allR, E4.ρ, E4.sl, E4.x⟩ _ E4 a6 w6 := S8.seed rfl rfl noC
        refine sym_last lay_ok mixed [] [0, 1, 2, 3, 7, 8, 9] [] (hH ln l A cap k heat (i + 1)) [.rng .i64 (i + 1)] S8 (by kernel_rfl) (by kernel_rfl) (by kernel_rfl) ⟨rngI64 ⟨by omega, by omega⟩, trivial⟩ fun E5 a7 w7 S9 => ?_
        refine out_then_normal ?_
        have hk7 : Kept noC w6 w7 := S9.kept
        exact ih E5 a7 w7 _ ⟨S9.seed rfl rfl noC, fun s hs => (S9.pin.2.1 s hs).trans (hsl6 s hs), by omega, by omega, ⟨S', hJ.1 _ _ _ _ hj6 (hk7.mono fun k _ h => h.elim), hgg⟩, Nat.le_trans hsz6 hk7.size⟩
/-- follow, by heated -/
theorem follow_heated (c0 : MWater) (l : List MPoint) (at' heat : Int) (W : World) (v : Nat → Value) (hb : HBox l at' heat v W) (hl : (0 : Int) ≤ at' ∧ at' ≤ ((l.length : Nat) : Int) ∧ l.length ≤ 1000000) (res : List MWater × Int) (h : followM c0 [] (insertP l at' heat) = some res) : Calls prog 35 #[.agg (wCells c0).toArray, .func (.func 57) #[] #[v 0, v 1, v 2]] W (FolPost W res) := by
  obtain ⟨x, y, z, r, hv0, hv1, hv2, hx, hy, hz, hr⟩ := hb
  obtain ⟨r1, r2, r3⟩ := hr.sl
  rw [hv0, hv1, hv2]
  rw [r1] at hx
  obtain ⟨k, rfl⟩ : ∃ k : Nat, at' = k := ⟨at'.toNat, by omega⟩
  exact follow_ok c0 (insertP l k heat) 57 _ _ W res h enters_57 (heatedSeq l r.A r.cap k x y z heat W (by omega) (by omega) r2 r3 hx hy hz) (fun k hk => hk)
end Go.Proofs.Ytlcccomdijdkaaa
namespace Go.Proofs.Ytlcccomdijdkaaa
open Go.RowKit Go.Proofs.Try

/-- a block that holds a limit -/
def LBox (limit : Int) (v : Nat → Value) (w : World) : Prop := ∃ b, v 0 = .pointer (some ⟨b, 0, none⟩) ∧ Blk w b 3 #[.int .i64 limit]
theorem LBox.of {W : World} {b : Nat} {limit : Int} (h : Blk W b 3 #[.int .i64 limit]) : HeldIn allR W (LBox limit fun _ => .pointer (some ⟨b, 0, none⟩)) :=
  ⟨fun k => k = b, fun k hk => by subst hk; exact ⟨h.lt, trivial⟩, fun w' hw => ⟨b, rfl, (hw b rfl).trans h⟩⟩
abbrev wQ (l : List MWater) : Q := ⟨l.length, 4, fun i => wCells (l.getD i default)⟩
theorem pure_shr1 {P : Program} {B : Nat} {m : MState} {k : IntKind} {a : Int} {t t' : TypeId} {x : Operand} (h : 0 ≤ a) : (Ob.pure m (.binOp .shr t x (.const (.int k 1)) t') [.v (.int k a), .v (.int k 1)] (.v (.int k (a / 2)))).holds P B := by
  intro E w R ρ dst ty pos aft gd _ hx
  have hx' : ρ x = .int k a ∧ ρ (.const (.int k 1)) = .int k 1 := by simpa [Op.operands, SV.vals, SV.val] using hx
  have hn : min (Int.toNat 1) k.bits = 1 := by cases k <;> rfl
  have hf : a.fdiv (2 ^ 1) = a / 2 := by rw [show (2 : Int) ^ 1 = 2 from rfl, Int.fdiv_eq_ediv_of_nonneg _ (by decide)]
  simp only [execOp, hx'.1, hx'.2, eqGuard, binOp, Op.shift, SV.val, Sem.run_bind, Sem.run_pure, Result.andThen_ok]
  have h10 : ¬ ((1 : Int) < 0) := by decide
  simp only [h10, if_false, hn, hf, Sem.run_pure, Result.andThen_ok]
  simp [Sem.run_pure, Result.andThen]
abbrev InU64 (e : Int) : Prop := 0 ≤ e ∧ e ≤ 18446744073709551615
theorem rngU64 {e : Int} (h : InU64 e) : IntKind.u64.wrap e = e := by
  have : IntKind.u64.wrap e = e % 18446744073709551616 := rfl
  rw [this]; unfold InU64 at h; omega
def tooWarm (c : MWater) (limit : Int) : Option Bool :=
some (decide (limit < c.warm.hi))
set_option maxRecDepth 100000 in
set_option maxHeartbeats 4000000 in
theorem tooWarm_ok (c : MWater) (limit : Int) (W : World) (v : Nat → Value) (hL : LBox limit v W) (res : Bool) (h : tooWarm c limit = some res) :
    Calls Go.Proofs.Try.prog 40 #[.agg #[.int .i64 c.flow.lo, .int .i64 c.flow.hi, .int .i64 c.warm.lo, .int .i64 c.warm.hi], v 0] W fun e w' => e = .returned (.bool res) ∧ Below W.heap.size W w' := by
  obtain ⟨b, hv, hB⟩ := hL
  rw [hv]
  refine sym_closure (f := 40) (fn := Go.Proofs.Try.f40) (c := Go.Proofs.Try.f40.body.get rfl) Go.Proofs.Try.func40 rfl [.agg [iv (c.flow.lo), iv (c.flow.hi), iv (c.warm.lo), iv (c.warm.hi)], .own 1000 0] [] [] [⟨1000, b, 3, [iv (limit)]⟩] [(1000, .blk 3 [iv (limit)])] rfl (by kernel_rfl) ⟨hB, trivial⟩ ⟨trivial, trivial⟩ trivial trivial fun E a w S => ?_
  rw [tooWarm] at h
  refine sym_seq lay_ok mixed [(0, { g := 0 })] [1, 2] [1000, 0] (⟨[(1, .own 1000 0), (2, .own 0 0)], ⟨[(1000, .blk 3 [iv (limit)]), (0, .blk 25 [iv (c.flow.lo), iv (c.flow.hi), iv (c.warm.lo), iv (c.warm.hi)])], [], []⟩⟩) [] S (by kernel_rfl) (by kernel_rfl) (by kernel_rfl) trivial ?_
  clear S; intro E a w S
  refine sym_seq lay_ok mixed [] [3] [1000] (⟨[(3, .v (.bool (decide (limit < c.warm.hi))))], ⟨[(1000, .blk 3 [iv (limit)])], [], []⟩⟩) [] S (by kernel_rfl) (by kernel_rfl) (by kernel_rfl) trivial ?_
  clear S; intro E a w S
  refine wp_ret ?_
  have h := Option.some.inj h
  subst h
  exact sym_ret lay_ok [.v (.bool (decide (limit < c.warm.hi)))] (by kernel_rfl) rfl S ⟨rfl, S.below_cb (cbs := [⟨1000, b, 3, [iv (limit)]⟩]) (rds0 := []) rfl rfl rfl ⟨rfl, trivial⟩ rfl ⟨trivial, trivial⟩ (show [1000].Nodup by decide) ⟨hB, trivial⟩ rfl⟩
def indexWarm_k1  (x1 : Unit) : Option Int :=
some (-1)
def indexWarm_l1 (l : List MWater) (limit : Int) : Nat → Int → Option (Lp Unit Int)
  | 0, _ => none
  | n + 1, b1 =>
    (bif decide (b1 < ((l.length : Nat) : Int)) then
    (grd (((0 : Int) ≤ b1 ∧ (b1 : Int) < ((l.length : Nat) : Int))) <|
    (tooWarm (MWater.mk (MSpan.mk (((l.getD (Int.toNat b1) default).flow).lo) (((l.getD (Int.toNat b1) default).flow).hi)) (MSpan.mk (((l.getD (Int.toNat b1) default).warm).lo) (((l.getD (Int.toNat b1) default).warm).hi))) limit).bind fun (r1 : Bool) =>
    (bif r1 then
    (some (Lp.ret b1))
    else
    (grd (InI64 (b1 + 1)) <|
    indexWarm_l1 l limit n (b1 + 1))))
    else
    (some (Lp.done ())))
def indexWarm (fuel : Nat) (l : List MWater) (limit : Int) : Option Int :=
(indexWarm_l1 l limit fuel 0).bind fun lr1 => lr1.go fun x1 => indexWarm_k1 x1
set_option maxRecDepth 100000 in
set_option maxHeartbeats 4000000 in
theorem indexWarm_ok (fuel : Nat) (l : List MWater) (limit : Int) (W : World) (A0 : Option Addr) (c0 : Nat) (h0 : l.length ≤ c0) (s0 : SlAt W A0 l.length 4 fun i => wCells (l.getD i default)) (v : Nat → Value) (hv : ∀ i, (v i).oneCell' = true) (hL : HeldIn allR W (LBox limit v)) (res : Int) (h : indexWarm fuel l limit = some res) :
    Calls Go.Proofs.Try.prog 58 #[.slice A0 l.length c0, .func (.func 40) #[] #[v 0]] W fun e w' => e = .returned (.int .i64 res) ∧ Below W.heap.size W w' := by
  refine sym_call (f := 58) (fn := Go.Proofs.Try.f58) (c := Go.Proofs.Try.f58.body.get rfl) Go.Proofs.Try.func58 rfl [.sl 0, .fn 40 [.ltr 1500 0]] [(0, wQ l)] [(1500, .held (LBox limit))] (envOf [(0, ⟨A0, l.length, c0, 4⟩)] [(1500, v)]) allR (fun _ _ => rfl) (by kernel_rfl) (envOf_one ⟨hv, trivial⟩) ⟨s0.rd h0, trivial⟩ (AllRR.all _ _) ⟨hL, trivial⟩ fun E a w S => ?_
  rw [indexWarm] at h
  refine sym_seq lay_ok mixed [] [0, 1] [1500] (⟨[(0, .sl 0), (1, .fn 40 [.ltr 1500 0])], ⟨[(1500, .held (LBox limit))], [(0, wQ l)], []⟩⟩) [] S (by kernel_rfl) (by kernel_rfl) (by kernel_rfl) trivial ?_
  clear S; intro E a w S
  refine wp_seq ?_
  refine sym_seq lay_ok mixed [] [0, 1, 7, 8] [1500] (⟨[(0, .sl 0), (1, .fn 40 [.ltr 1500 0]), (7, iv (((l.length : Nat) : Int))), (8, iv (0))], ⟨[(1500, .held (LBox limit))], [(0, wQ l)], []⟩⟩) [] S (by kernel_rfl) (by kernel_rfl) (by kernel_rfl) trivial ?_
  clear S; intro E a w S
  obtain ⟨lr1, e1, hp1⟩ := bind_some h
  clear h
  refine sym_block_last (G := fun a w => ∃ E, ∃ x1 : Unit, indexWarm_k1 x1 = some res ∧ St ⟨W, noC, Go.Proofs.Try.f58.ntmps, [], allR, noρ, (envOf [(0, ⟨A0, l.length, c0, 4⟩)] [(1500, v)]).sl, (envOf [(0, ⟨A0, l.length, c0, 4⟩)] [(1500, v)]).x⟩ (⟨[], ⟨[(1500, .held (LBox limit))], [(0, wQ l)], []⟩⟩) E a w) ?_ ?_
  · refine wp_loop_rounds fuel ?_
    refine sym_rounds (F := fun n b1 => indexWarm_l1 l limit n b1 = some lr1) (H := fun b1 => ⟨[(0, .sl 0), (1, .fn 40 [.ltr 1500 0]), (7, iv (((l.length : Nat) : Int))), (8, iv (b1))], ⟨[(1500, .held (LBox limit))], [(0, wQ l)], []⟩⟩) 0 (fun b hb => by have hb : none = some lr1 := hb; cases hb) ?_ _ _ _ _ e1 (St.cast (P := Go.Proofs.Try.prog) [] [] [0, 1, 7, 8] [1500] [0] _ [] (by kernel_rfl) trivial S)
    clear e1 S
    intro n b1 E a w h ih S
    rw [indexWarm_l1] at h
    refine sym_seq lay_ok mixed [] [0, 1, 7, 8, 9] [1500] (⟨[(0, .sl 0), (1, .fn 40 [.ltr 1500 0]), (7, iv (((l.length : Nat) : Int))), (8, iv (b1)), (9, .v (.bool (decide (b1 < ((l.length : Nat) : Int)))))], ⟨[(1500, .held (LBox limit))], [(0, wQ l)], []⟩⟩) [] S (by kernel_rfl) (by kernel_rfl) (by kernel_rfl) trivial ?_
    clear S; intro E a w S
    refine sym_if (b := decide (b1 < ((l.length : Nat) : Int))) S rfl (fun hb1 => ?_) (fun hb1 => ?_)
    · have h := bif_t hb1 h
      refine wp_skip ?_
      refine out_then_normal ?_
      refine wp_seq ?_
      refine wp_block ?_
      refine sym_seq lay_ok mixed [] [0, 1, 7, 8, 5] [1500] (⟨[(0, .sl 0), (1, .fn 40 [.ltr 1500 0]), (7, iv (((l.length : Nat) : Int))), (8, iv (b1)), (5, iv (b1))], ⟨[(1500, .held (LBox limit))], [(0, wQ l)], []⟩⟩) [] S (by kernel_rfl) (by kernel_rfl) (by kernel_rfl) trivial ?_
      clear S; intro E a w S
      obtain ⟨g1, h⟩ := grd_some h
      obtain ⟨r1, e2, h⟩ := bind_some h
      refine sym_seq lay_ok mixed [(5, { fp := [1500], res := .v (.bool r1) })] [0, 1, 7, 8, 5, 16] [1500] (⟨[(0, .sl 0), (1, .fn 40 [.ltr 1500 0]), (7, iv (((l.length : Nat) : Int))), (8, iv (b1)), (5, iv (b1)), (16, .v (.bool r1))], ⟨[(1500, .held (LBox limit))], [(0, wQ l)], []⟩⟩) [.idx b1 l.length, .idx b1 l.length, .call ⟨[(1500, .held (LBox limit))], [(0, wQ l)], []⟩ 40 [.agg [iv ((((l.getD (Int.toNat b1) default).flow).lo)), iv ((((l.getD (Int.toNat b1) default).flow).hi)), iv ((((l.getD (Int.toNat b1) default).warm).lo)), iv ((((l.getD (Int.toNat b1) default).warm).hi))], .ltr 1500 0] (.v (.bool r1))] S (by kernel_rfl) (by kernel_rfl) (by kernel_rfl) ⟨g1, g1, ⟨enters_40, fun E W _ hm => tooWarm_ok (MWater.mk (MSpan.mk (((l.getD (Int.toNat b1) default).flow).lo) (((l.getD (Int.toNat b1) default).flow).hi)) (MSpan.mk (((l.getD (Int.toNat b1) default).warm).lo) (((l.getD (Int.toNat b1) default).warm).hi))) limit W _ (hm.held 1500 _ rfl).out r1 e2⟩, trivial⟩ ?_
      clear S; intro E a w S
      refine sym_if_last (b := r1) S rfl (fun hb2 => ?_) (fun hb2 => ?_)
      · have h := bif_t hb2 h
        refine sym_seq lay_ok mixed [] [4] [1500] (⟨[(4, iv (b1))], ⟨[(1500, .held (LBox limit))], [(0, wQ l)], []⟩⟩) [] S (by kernel_rfl) (by kernel_rfl) (by kernel_rfl) trivial ?_
        clear S; intro E a w S
        refine wp_ret ?_
        refine out_block_ret ?_
        refine out_then_ret ?_
        refine out_then_ret ?_
        refine out_block_ret ?_
        refine out_then_ret ?_
        refine out_then_ret ?_
        have hr := Option.some.inj h
        subst hr
        have hr := Option.some.inj hp1
        subst hr
        exact sym_ret lay_ok [iv (b1)] (by kernel_rfl) rfl S ⟨rfl, S.below rfl⟩
      · have h := bif_f hb2 h
        refine wp_skip ?_
        refine out_block_normal ?_
        refine out_then_normal ?_
        obtain ⟨g2, h⟩ := grd_some h
        refine sym_last lay_ok mixed [] [0, 1, 7, 8] [1500] (⟨[(0, .sl 0), (1, .fn 40 [.ltr 1500 0]), (7, iv (((l.length : Nat) : Int))), (8, iv ((b1 + 1)))], ⟨[(1500, .held (LBox limit))], [(0, wQ l)], []⟩⟩) [.rng .i64 (b1 + 1)] S (by kernel_rfl) (by kernel_rfl) (by kernel_rfl) ⟨rngI64 g2, trivial⟩ ?_
        clear S; intro E a w S
        refine out_then_normal ?_
        exact ih (b1 + 1) _ _ _ h (St.cast (P := Go.Proofs.Try.prog) [] [] [0, 1, 7, 8] [1500] [0] _ [] (by kernel_rfl) trivial S)
    · have h := bif_f hb1 h
      refine wp_exit ?_
      refine out_then_exit ?_
      refine out_then_exit ?_
      refine out_block_here ?_
      refine out_then_normal ?_
      have hr := Option.some.inj h
      subst hr
      exact ⟨_, (), hp1, St.cast (P := Go.Proofs.Try.prog) [] [] [] [1500] [0] _ [] (by kernel_rfl) trivial S⟩
  clear e1 S
  rintro a w ⟨E, x1, h, S⟩
  rw [indexWarm_k1] at h
  refine out_then_normal ?_
  refine sym_seq lay_ok mixed [] [4] [1500] (⟨[(4, iv ((-1)))], ⟨[(1500, .held (LBox limit))], [(0, wQ l)], []⟩⟩) [] S (by kernel_rfl) (by kernel_rfl) (by kernel_rfl) trivial ?_
  clear S; intro E a w S
  refine wp_ret ?_
  have h := Option.some.inj h
  subst h
  exact sym_ret lay_ok [iv ((-1))] (by kernel_rfl) rfl S ⟨rfl, S.below rfl⟩
def anyWarm (fuel : Nat) (l : List MWater) (limit : Int) : Option Bool :=
(indexWarm fuel l limit).bind fun (r1 : Int) =>
some (decide (0 ≤ r1))
set_option maxRecDepth 100000 in
set_option maxHeartbeats 4000000 in
theorem anyWarm_ok (fuel : Nat) (l : List MWater) (limit : Int) (W : World) (A0 : Option Addr) (c0 : Nat) (h0 : l.length ≤ c0) (s0 : SlAt W A0 l.length 4 fun i => wCells (l.getD i default)) (v : Nat → Value) (hv : ∀ i, (v i).oneCell' = true) (hL : HeldIn allR W (LBox limit v)) (res : Bool) (h : anyWarm fuel l limit = some res) :
    Calls Go.Proofs.Try.prog 43 #[.slice A0 l.length c0, .func (.func 40) #[] #[v 0]] W fun e w' => e = .returned (.bool res) ∧ Below W.heap.size W w' := by
  refine sym_call (f := 43) (fn := Go.Proofs.Try.f43) (c := Go.Proofs.Try.f43.body.get rfl) Go.Proofs.Try.func43 rfl [.sl 0, .fn 40 [.ltr 1500 0]] [(0, wQ l)] [(1500, .held (LBox limit))] (envOf [(0, ⟨A0, l.length, c0, 4⟩)] [(1500, v)]) allR (fun _ _ => rfl) (by kernel_rfl) (envOf_one ⟨hv, trivial⟩) ⟨s0.rd h0, trivial⟩ (AllRR.all _ _) ⟨hL, trivial⟩ fun E a w S => ?_
  rw [anyWarm] at h
  refine sym_seq lay_ok mixed [] [0, 1] [1500] (⟨[(0, .sl 0), (1, .fn 40 [.ltr 1500 0])], ⟨[(1500, .held (LBox limit))], [(0, wQ l)], []⟩⟩) [] S (by kernel_rfl) (by kernel_rfl) (by kernel_rfl) trivial ?_
  clear S; intro E a w S
  obtain ⟨r1, e1, h⟩ := bind_some h
  refine sym_seq lay_ok mixed [(2, { fp := [1500], res := iv (r1) })] [4] [1500] (⟨[(4, .v (.bool (decide (0 ≤ r1))))], ⟨[(1500, .held (LBox limit))], [(0, wQ l)], []⟩⟩) [.call ⟨[(1500, .held (LBox limit))], [(0, wQ l)], []⟩ 58 [.sl 0, .fn 40 [.ltr 1500 0]] (iv (r1))] S (by kernel_rfl) (by kernel_rfl) (by kernel_rfl) ⟨⟨enters_58, fun E W _ hm => by obtain ⟨A0, c0, q0, l0, s0, _⟩ := Mem.sl hm (s := 0) rfl; simp only [SV.vals, SV.val, q0]; exact indexWarm_ok fuel l limit W A0 c0 l0 s0 (fun i => E.x 1500 i) (fun i => hm.one 1500 i) ((hm.held 1500 _ rfl).mono fun _ _ _ => trivial) r1 e1⟩, trivial⟩ ?_
  clear S; intro E a w S
  refine wp_ret ?_
  have h := Option.some.inj h
  subst h
  exact sym_ret lay_ok [.v (.bool (decide (0 ≤ r1)))] (by kernel_rfl) rfl S ⟨rfl, S.below rfl⟩
def tooMuch (fuel : Nat) (c : MWater) (l : List MPoint) (at' limit heat : Int) : Option Bool :=
grd (((0 : Int) ≤ at' ∧ at' ≤ ((l.length : Nat) : Int) ∧ l.length ≤ 1000000)) <|
(followM (MWater.mk (MSpan.mk c.flow.lo c.flow.hi) (MSpan.mk c.warm.lo c.warm.hi)) [] (insertP l at' heat)).bind fun (r1 : List MWater × Int) =>
grd (((!(r1.2 != 0)) = true → ((0 : Int) ≤ at' ∧ at' ≤ ((r1.1.length : Nat) : Int) ∧ ((r1.1.length : Nat) : Int) ≤ ((r1.1.length : Nat) : Int)))) <|
((bif (!(r1.2 != 0)) then anyWarm fuel ((r1.1.drop (Int.toNat at')).take (r1.1.length - (Int.toNat at'))) limit else some default)).bind fun (r2 : Bool) =>
some ((r1.2 != 0) || r2)
/-- five blocks that hold what tooMuch has caught -/
def RBox (c : MWater) (l : List MPoint) (at' limit : Int) (v : Nat → Value) (w : World) : Prop := ∃ b0 b1 b2 b3 b4 r, v 0 = .pointer (some ⟨b0, 0, none⟩) ∧ v 1 = .pointer (some ⟨b1, 0, none⟩) ∧ v 2 = .pointer (some ⟨b2, 0, none⟩) ∧ v 3 = .pointer (some ⟨b3, 0, none⟩) ∧ b2 ≠ b4 ∧ InR (fun k => k ≠ b0 ∧ k ≠ b1 ∧ k ≠ b2 ∧ k ≠ b3 ∧ k ≠ b4 ∧ True) r.A l.length ∧
  Blk w b0 25 (wCells c).toArray ∧ Blk w b1 26 #[.slice r.A l.length r.cap] ∧ Blk w b2 3 #[.int .i64 at'] ∧ Blk w b3 50 #[.func (.func 40) #[] #[.pointer (some ⟨b4, 0, none⟩)]] ∧ Blk w b4 3 #[.int .i64 limit] ∧ RdAt w (pQ l) r
set_option maxRecDepth 100000 in
set_option maxHeartbeats 4000000 in
theorem tooMuch_ok (fuel : Nat) (c : MWater) (l : List MPoint) (at' limit heat : Int) (W : World) (v : Nat → Value) (hL : RBox c l at' limit v W) (res : Bool) (h : tooMuch fuel c l at' limit heat = some res) :
    Calls Go.Proofs.Try.prog 41 #[.int .i64 heat, v 0, v 1, v 2, v 3] W fun e w' => e = .returned (.bool res) ∧ Below W.heap.size W w' := by
  obtain ⟨b0, b1, b2, b3, b4, r, v0, v1, v2, v3, n24, r0, B0, B1, B2, B3, B4, hr⟩ := hL
  obtain ⟨_, h0, s0⟩ := hr.sl
  rw [v0, v1, v2, v3]
  have hA : ApartCB [⟨1000, b0, 25, [iv (c.flow.lo), iv (c.flow.hi), iv (c.warm.lo), iv (c.warm.hi)]⟩, ⟨1001, b1, 26, [.sl 0]⟩, ⟨1002, b2, 3, [iv (at')]⟩, ⟨1003, b3, 50, [.fn 40 [.own 1004 0]]⟩, ⟨1004, b4, 3, [iv (limit)]⟩] := ⟨⟨blk_ne B0 B1 (by decide), blk_ne B0 B2 (by decide), blk_ne B0 B3 (by decide), blk_ne B0 B4 (by decide), trivial⟩, ⟨blk_ne B1 B2 (by decide), blk_ne B1 B3 (by decide), blk_ne B1 B4 (by decide), trivial⟩, ⟨blk_ne B2 B3 (by decide), n24, trivial⟩, ⟨blk_ne B3 B4 (by decide), trivial⟩, trivial, trivial⟩
  have hB : AllCB W (envC [(0, ⟨r.A, l.length, r.cap, 9⟩)] [] [⟨1000, b0, 25, [iv (c.flow.lo), iv (c.flow.hi), iv (c.warm.lo), iv (c.warm.hi)]⟩, ⟨1001, b1, 26, [.sl 0]⟩, ⟨1002, b2, 3, [iv (at')]⟩, ⟨1003, b3, 50, [.fn 40 [.own 1004 0]]⟩, ⟨1004, b4, 3, [iv (limit)]⟩]) [⟨1000, b0, 25, [iv (c.flow.lo), iv (c.flow.hi), iv (c.warm.lo), iv (c.warm.hi)]⟩, ⟨1001, b1, 26, [.sl 0]⟩, ⟨1002, b2, 3, [iv (at')]⟩, ⟨1003, b3, 50, [.fn 40 [.own 1004 0]]⟩, ⟨1004, b4, 3, [iv (limit)]⟩] := ⟨B0, B1, B2, B3, B4, trivial⟩
  refine sym_closure (f := 41) (fn := Go.Proofs.Try.f41) (c := Go.Proofs.Try.f41.body.get rfl) Go.Proofs.Try.func41 rfl [iv (heat), .own 1000 0, .own 1001 0, .own 1002 0, .own 1003 0] [(0, pQ l)] [(0, ⟨r.A, l.length, r.cap, 9⟩)] [⟨1000, b0, 25, [iv (c.flow.lo), iv (c.flow.hi), iv (c.warm.lo), iv (c.warm.hi)]⟩, ⟨1001, b1, 26, [.sl 0]⟩, ⟨1002, b2, 3, [iv (at')]⟩, ⟨1003, b3, 50, [.fn 40 [.own 1004 0]]⟩, ⟨1004, b4, 3, [iv (limit)]⟩] [(1000, .blk 25 [iv (c.flow.lo), iv (c.flow.hi), iv (c.warm.lo), iv (c.warm.hi)]), (1001, .blk 26 [.sl 0]), (1002, .blk 3 [iv (at')]), (1003, .blk 50 [.fn 40 [.own 1004 0]]), (1004, .blk 3 [iv (limit)])] rfl (by kernel_rfl) hB hA ⟨s0.rd h0, trivial⟩ ⟨r0, trivial⟩ fun E a w S => ?_
  rw [tooMuch] at h
  refine sym_seq lay_ok mixed [] [0, 1, 2, 3, 4] [1000, 1001, 1002, 1003, 1004] (⟨[(0, iv (heat)), (1, .own 1000 0), (2, .own 1001 0), (3, .own 1002 0), (4, .own 1003 0)], ⟨[(1000, .blk 25 [iv (c.flow.lo), iv (c.flow.hi), iv (c.warm.lo), iv (c.warm.hi)]), (1001, .blk 26 [.sl 0]), (1002, .blk 3 [iv (at')]), (1003, .blk 50 [.fn 40 [.own 1004 0]]), (1004, .blk 3 [iv (limit)])], [(0, pQ l)], []⟩⟩) [] S (by kernel_rfl) (by kernel_rfl) (by kernel_rfl) trivial ?_
  clear S; intro E a w S
  obtain ⟨g1, h⟩ := grd_some h
  obtain ⟨r1, e1, h⟩ := bind_some h
  refine sym_seq lay_ok mixed [(4, { g := 0, res := .fn 57 [.ltr 0 0, .ltr 0 1, .ltr 0 2], hx := some (HBox l at' heat) }), (5, { g := 1, fp := [0], res := .tup [.ltr 1 0, iv (r1.2)], hx := some (SlicesAre 0 [(wQZ r1.1)]) })] [3, 4, 7, 8] [1000, 1001, 1002, 1003, 1004, 1] (⟨[(3, .own 1002 0), (4, .own 1003 0), (7, .ltr 1 0), (8, iv (r1.2))], ⟨[(1000, .blk 25 [iv (c.flow.lo), iv (c.flow.hi), iv (c.warm.lo), iv (c.warm.hi)]), (1001, .blk 26 [.sl 0]), (1002, .blk 3 [iv (at')]), (1003, .blk 50 [.fn 40 [.own 1004 0]]), (1004, .blk 3 [iv (limit)]), (1, .held (SlicesAre 0 [(wQZ r1.1)]))], [(0, pQ l)], []⟩⟩) [.callx ⟨[], [(0, pQ l)], []⟩ 0 42 [.sl 0, iv (at'), iv (heat)] (.fn 57 [.ltr 0 0, .ltr 0 1, .ltr 0 2]) (HBox l at' heat), .callx ⟨[(0, .held (HBox l at' heat))], [(0, pQ l)], []⟩ 1 35 [.agg [iv (c.flow.lo), iv (c.flow.hi), iv (c.warm.lo), iv (c.warm.hi)], .fn 57 [.ltr 0 0, .ltr 0 1, .ltr 0 2]] (.tup [.ltr 1 0, iv (r1.2)]) (SlicesAre 0 [(wQZ r1.1)])] S (by kernel_rfl) (by kernel_rfl) (by kernel_rfl) ⟨⟨enters_42, fun E W R hm => by obtain ⟨A0, c0, q0, l0, s0, r0⟩ := Mem.sl hm (s := 0) rfl; simp only [SV.vals, SV.val, q0, Env.updX_same]; exact heatedOf_ok l at' heat W R A0 c0 l0 s0 r0⟩, ⟨enters_35, fun E W R hm => by have hx := follow_heated (MWater.mk (MSpan.mk c.flow.lo c.flow.hi) (MSpan.mk c.warm.lo c.warm.hi)) l at' heat W (E.x 0) (hm.held 0 _ rfl).out g1 r1 e1; simp only [SV.vals, SV.val, Env.updX_same]; exact hx.mono fun e w' hx => by obtain ⟨v, h1, h2, h3, h4⟩ := hx; exact ⟨v, h1, h2, h3, h4.mono fun _ _ h => .inl h⟩⟩, trivial⟩ ?_
  clear S; intro E a w S
  obtain ⟨E, S⟩ := St.read 1 0 1001 (wQZ r1.1) (⟨[(3, .own 1002 0), (4, .own 1003 0), (7, .sl 1001), (8, iv (r1.2))], ⟨[(1000, .blk 25 [iv (c.flow.lo), iv (c.flow.hi), iv (c.warm.lo), iv (c.warm.hi)]), (1001, .blk 26 [.sl 0]), (1002, .blk 3 [iv (at')]), (1003, .blk 50 [.fn 40 [.own 1004 0]]), (1004, .blk 3 [iv (limit)]), (1, .held (SlicesAre 0 [(wQZ r1.1)]))], ((1001, (wQZ r1.1)) :: [(0, pQ l)]), []⟩⟩) rfl (fun v w h => h.1) (by intro _ h; cases h) (by kernel_rfl) (by kernel_rfl) S
  obtain ⟨g2, h⟩ := grd_some h
  obtain ⟨r2, e2, h⟩ := bind_some h
  refine sym_seq lay_ok mixed [(3, { og := true }), (4, { og := true }), (5, { og := true }), (6, { og := true }), (7, { og := true, fp := [1004], res := .v (.bool r2) }), (8, { pk := true })] [6] [1000, 1001, 1002, 1003, 1004] (⟨[(6, .v (.bool ((r1.2 != 0) || r2)))], ⟨[(1000, .blk 25 [iv (c.flow.lo), iv (c.flow.hi), iv (c.warm.lo), iv (c.warm.hi)]), (1001, .blk 26 [.sl 0]), (1002, .blk 3 [iv (at')]), (1003, .blk 50 [.fn 40 [.own 1004 0]]), (1004, .blk 3 [iv (limit)])], ((1001, (wQZ r1.1)) :: [(0, pQ l)]), []⟩⟩) [.imp (!(r1.2 != 0)) (!(r1.2 != 0)), .imp (!(r1.2 != 0)) (!(r1.2 != 0)), .when (!(r1.2 != 0)) (.sub at' ((r1.1.length : Nat) : Int) r1.1.length), .imp (!(r1.2 != 0)) (!(r1.2 != 0)), .imp (!(r1.2 != 0)) (!(r1.2 != 0)), .when (!(r1.2 != 0)) (.call ⟨[(1004, .blk 3 [iv (limit)])], ((1001, (wQZ r1.1)) :: [(0, pQ l)]), []⟩ 43 [.sub 1001 (Int.toNat at') r1.1.length, .fn 40 [.own 1004 0]] (.v (.bool r2))), .imp (!(r1.2 != 0)) (!(r1.2 != 0))] S (by kernel_rfl) (by kernel_rfl) (by kernel_rfl) ⟨fun h => h, fun h => h, fun hW => (g2 hW), fun h => h, fun h => h, fun hW => ⟨enters_43, fun E W _ hm => by obtain ⟨A0, c0, q0, l0, s0, _⟩ := Mem.subM hm (s := 1001) rfl (Int.toNat at') r1.1.length ((r1.1.drop (Int.toNat at')).take (r1.1.length - (Int.toNat at'))).length (fun i => wZ (((r1.1.drop (Int.toNat at')).take (r1.1.length - (Int.toNat at'))).getD i default)) (show (Int.toNat at') ≤ r1.1.length by have := (g2 hW); omega) (show r1.1.length ≤ r1.1.length by have := (g2 hW); omega) (sub_len _ _ _ (by have := (g2 hW); omega)) (fun i hi => by simp only [sub_getD _ _ _ _ hi]); simp only [SV.vals, SV.val, q0]; exact anyWarm_ok fuel ((r1.1.drop (Int.toNat at')).take (r1.1.length - (Int.toNat at'))) limit W A0 c0 l0 s0 (fun _ => .pointer (some ⟨E.ρ 1004, 0, none⟩)) (fun _ => rfl) (LBox.of (hm.blk 1004 _ _ rfl)) r2 (bif_t hW e2)⟩, fun h => h, trivial⟩ ?_
  clear S; intro E a w S
  refine wp_ret ?_
  have h := Option.some.inj h
  subst h
  exact sym_ret lay_ok [.v (.bool ((r1.2 != 0) || r2))] (by kernel_rfl) rfl S ⟨rfl, S.below_cb (cbs := [⟨1000, b0, 25, [iv (c.flow.lo), iv (c.flow.hi), iv (c.warm.lo), iv (c.warm.hi)]⟩, ⟨1001, b1, 26, [.sl 0]⟩, ⟨1002, b2, 3, [iv (at')]⟩, ⟨1003, b3, 50, [.fn 40 [.own 1004 0]]⟩, ⟨1004, b4, 3, [iv (limit)]⟩]) (rds0 := [(0, ⟨r.A, l.length, r.cap, 9⟩)]) rfl rfl rfl ⟨rfl, rfl, rfl, rfl, rfl, trivial⟩ rfl hA (show [1000, 1001, 1002, 1003, 1004].Nodup by decide) hB rfl⟩
def searchRoom_k1  (x1 : Int) : Option Int :=
some x1
def searchRoom_l1 (fuel : Nat) (c : MWater) (l : List MPoint) (at' : Int) (limit : Int) : Nat → (Int × Int) → Option (Lp Int Int)
  | 0, _ => none
  | n + 1, b1 =>
    (bif decide (b1.1 < b1.2) then
    (grd (InI64 (b1.1 + b1.2) ∧ InU64 (b1.1 + b1.2) ∧ ((0 : Int) ≤ (b1.1 + b1.2)) ∧ InI64 ((b1.1 + b1.2) / 2)) <|
    (tooMuch fuel c l at' limit ((b1.1 + b1.2) / 2)).bind fun (r1 : Bool) =>
    (bif (!r1) then
    (grd (InI64 (((b1.1 + b1.2) / 2) + 1)) <|
    searchRoom_l1 fuel c l at' limit n ((((b1.1 + b1.2) / 2) + 1), b1.2))
    else
    (searchRoom_l1 fuel c l at' limit n (b1.1, ((b1.1 + b1.2) / 2)))))
    else
    (some (Lp.done b1.1)))
def searchRoom (fuel : Nat) (c : MWater) (l : List MPoint) (at' limit : Int) (n0 : Int) : Option Int :=
(searchRoom_l1 fuel c l at' limit fuel (0, n0)).bind fun lr1 => lr1.go fun x1 => searchRoom_k1 x1
set_option maxRecDepth 100000 in
set_option maxHeartbeats 4000000 in
theorem searchRoom_ok (fuel : Nat) (c : MWater) (l : List MPoint) (at' limit : Int) (n0 : Int) (W : World) (v : Nat → Value) (hv : ∀ i, (v i).oneCell' = true) (hL : HeldIn allR W (RBox c l at' limit v)) (res : Int) (h : searchRoom fuel c l at' limit n0 = some res) :
    Calls Go.Proofs.Try.prog 44 #[.int .i64 n0, .func (.func 41) #[] #[v 0, v 1, v 2, v 3]] W fun e w' => e = .returned (.int .i64 res) ∧ Below W.heap.size W w' := by
  refine sym_call (f := 44) (fn := Go.Proofs.Try.f44) (c := Go.Proofs.Try.f44.body.get rfl) Go.Proofs.Try.func44 rfl [iv (n0), .fn 41 [.ltr 1500 0, .ltr 1500 1, .ltr 1500 2, .ltr 1500 3]] [] [(1500, .held (RBox c l at' limit))] (envOf [] [(1500, v)]) allR (fun _ _ => rfl) (by kernel_rfl) (envOf_one ⟨hv, trivial⟩) trivial trivial ⟨hL, trivial⟩ fun E a w S => ?_
  rw [searchRoom] at h
  refine sym_seq lay_ok mixed [] [0, 1] [1500] (⟨[(0, iv (n0)), (1, .fn 41 [.ltr 1500 0, .ltr 1500 1, .ltr 1500 2, .ltr 1500 3])], ⟨[(1500, .held (RBox c l at' limit))], [], []⟩⟩) [] S (by kernel_rfl) (by kernel_rfl) (by kernel_rfl) trivial ?_
  clear S; intro E a w S
  refine sym_seq lay_ok mixed [] [1, 5, 6] [1500] (⟨[(1, .fn 41 [.ltr 1500 0, .ltr 1500 1, .ltr 1500 2, .ltr 1500 3]), (5, iv (0)), (6, iv (n0))], ⟨[(1500, .held (RBox c l at' limit))], [], []⟩⟩) [] S (by kernel_rfl) (by kernel_rfl) (by kernel_rfl) trivial ?_
  clear S; intro E a w S
  obtain ⟨lr1, e1, hp1⟩ := bind_some h
  clear h
  refine sym_block_meet (G := fun a w => ∃ E, ∃ x1 : Int, searchRoom_k1 x1 = some res ∧ St ⟨W, noC, Go.Proofs.Try.f44.ntmps, [], allR, noρ, (envOf []).sl, (envOf [] [(1500, v)]).x⟩ (⟨[(5, iv (x1))], ⟨[(1500, .held (RBox c l at' limit))], [], []⟩⟩) E a w) ?_ ?_
  · refine wp_loop_rounds fuel ?_
    refine sym_rounds (F := fun n b1 => searchRoom_l1 fuel c l at' limit n b1 = some lr1) (H := fun b1 => ⟨[(1, .fn 41 [.ltr 1500 0, .ltr 1500 1, .ltr 1500 2, .ltr 1500 3]), (5, iv (b1.1)), (6, iv (b1.2))], ⟨[(1500, .held (RBox c l at' limit))], [], []⟩⟩) (0, n0) (fun b hb => by have hb : none = some lr1 := hb; cases hb) ?_ _ _ _ _ e1 (St.cast (P := Go.Proofs.Try.prog) [] [] [1, 5, 6] [1500] [] _ [] (by kernel_rfl) trivial S)
    clear e1 S
    intro n b1 E a w h ih S
    rw [searchRoom_l1] at h
    refine wp_seq ?_
    refine sym_seq lay_ok mixed [] [1, 5, 6, 11] [1500] (⟨[(1, .fn 41 [.ltr 1500 0, .ltr 1500 1, .ltr 1500 2, .ltr 1500 3]), (5, iv (b1.1)), (6, iv (b1.2)), (11, .v (.bool (decide (b1.1 < b1.2))))], ⟨[(1500, .held (RBox c l at' limit))], [], []⟩⟩) [] S (by kernel_rfl) (by kernel_rfl) (by kernel_rfl) trivial ?_
    clear S; intro E a w S
    refine sym_if_last (b := decide (b1.1 < b1.2)) S rfl (fun hb1 => ?_) (fun hb1 => ?_)
    · have h := bif_t hb1 h
      refine wp_skip ?_
      refine out_then_normal ?_
      refine wp_block ?_
      obtain ⟨⟨g1, g2, g3, g4⟩, h⟩ := grd_some h
      refine sym_seq lay_ok mixed [(4, { px := some (.v (.int .u64 ((b1.1 + b1.2) / 2))) })] [1, 5, 6, 7] [1500] (⟨[(1, .fn 41 [.ltr 1500 0, .ltr 1500 1, .ltr 1500 2, .ltr 1500 3]), (5, iv (b1.1)), (6, iv (b1.2)), (7, iv (((b1.1 + b1.2) / 2)))], ⟨[(1500, .held (RBox c l at' limit))], [], []⟩⟩) [.rng .i64 (b1.1 + b1.2), .rng .u64 (b1.1 + b1.2), .pure ⟨[], [], []⟩ (.binOp .shr 95 (.tmp 15) (.const (.int .u64 1)) 95) [.v (.int .u64 (b1.1 + b1.2)), .v (.int .u64 1)] (.v (.int .u64 ((b1.1 + b1.2) / 2))), .rng .i64 ((b1.1 + b1.2) / 2)] S (by kernel_rfl) (by kernel_rfl) (by kernel_rfl) ⟨rngI64 g1, rngU64 g2, pure_shr1 g3, rngI64 g4, trivial⟩ ?_
      clear S; intro E a w S
      obtain ⟨r1, e2, h⟩ := bind_some h
      refine sym_seq lay_ok mixed [(2, { fp := [1500], res := .v (.bool r1) })] [1, 5, 6, 7, 21] [1500] (⟨[(1, .fn 41 [.ltr 1500 0, .ltr 1500 1, .ltr 1500 2, .ltr 1500 3]), (5, iv (b1.1)), (6, iv (b1.2)), (7, iv (((b1.1 + b1.2) / 2))), (21, .v (.bool (!r1)))], ⟨[(1500, .held (RBox c l at' limit))], [], []⟩⟩) [.call ⟨[(1500, .held (RBox c l at' limit))], [], []⟩ 41 [iv (((b1.1 + b1.2) / 2)), .ltr 1500 0, .ltr 1500 1, .ltr 1500 2, .ltr 1500 3] (.v (.bool r1))] S (by kernel_rfl) (by kernel_rfl) (by kernel_rfl) ⟨⟨enters_41, fun E W _ hm => tooMuch_ok fuel c l at' limit ((b1.1 + b1.2) / 2) W _ (hm.held 1500 _ rfl).out r1 e2⟩, trivial⟩ ?_
      clear S; intro E a w S
      refine sym_if_last (b := (!r1)) S rfl (fun hb2 => ?_) (fun hb2 => ?_)
      · have h := bif_t hb2 h
        obtain ⟨g5, h⟩ := grd_some h
        refine sym_last lay_ok mixed [] [1, 5, 6] [1500] (⟨[(1, .fn 41 [.ltr 1500 0, .ltr 1500 1, .ltr 1500 2, .ltr 1500 3]), (5, iv ((((b1.1 + b1.2) / 2) + 1))), (6, iv (b1.2))], ⟨[(1500, .held (RBox c l at' limit))], [], []⟩⟩) [.rng .i64 (((b1.1 + b1.2) / 2) + 1)] S (by kernel_rfl) (by kernel_rfl) (by kernel_rfl) ⟨rngI64 g5, trivial⟩ ?_
        clear S; intro E a w S
        refine out_block_normal ?_
        refine out_then_normal ?_
        exact ih ((((b1.1 + b1.2) / 2) + 1), b1.2) _ _ _ h (St.cast (P := Go.Proofs.Try.prog) [] [] [1, 5, 6] [1500] [] _ [] (by kernel_rfl) trivial S)
      · have h := bif_f hb2 h
        refine sym_last lay_ok mixed [] [1, 5, 6] [1500] (⟨[(1, .fn 41 [.ltr 1500 0, .ltr 1500 1, .ltr 1500 2, .ltr 1500 3]), (5, iv (b1.1)), (6, iv (((b1.1 + b1.2) / 2)))], ⟨[(1500, .held (RBox c l at' limit))], [], []⟩⟩) [] S (by kernel_rfl) (by kernel_rfl) (by kernel_rfl) trivial ?_
        clear S; intro E a w S
        refine out_block_normal ?_
        refine out_then_normal ?_
        exact ih (b1.1, ((b1.1 + b1.2) / 2)) _ _ _ h (St.cast (P := Go.Proofs.Try.prog) [] [] [1, 5, 6] [1500] [] _ [] (by kernel_rfl) trivial S)
    · have h := bif_f hb1 h
      refine wp_exit ?_
      refine out_then_exit ?_
      refine out_then_exit ?_
      refine out_block_here ?_
      refine out_then_normal ?_
      have hr := Option.some.inj h
      subst hr
      exact ⟨_, b1.1, hp1, St.cast (P := Go.Proofs.Try.prog) [] [] [5] [1500] [] _ [] (by kernel_rfl) trivial S⟩
  clear e1 S
  rintro a w ⟨E, x1, h, S⟩
  rw [searchRoom_k1] at h
  refine sym_seq lay_ok mixed [] [4] [1500] (⟨[(4, iv (x1))], ⟨[(1500, .held (RBox c l at' limit))], [], []⟩⟩) [] S (by kernel_rfl) (by kernel_rfl) (by kernel_rfl) trivial ?_
  clear S; intro E a w S
  refine wp_ret ?_
  have h := Option.some.inj h
  subst h
  exact sym_ret lay_ok [iv (x1)] (by kernel_rfl) rfl S ⟨rfl, S.below rfl⟩
end Go.Proofs.Ytlcccomdijdkaaa
namespace Go.Proofs.Ytlcccomdijdkaaa
open Go.RowKit Go.Proofs.Try

def stream_Room_R (l : List MPoint) : List (Nat × Q) := [(0, (pQZ l))]
def stream_Room (fuel : Nat) (first : MWater) (l : List MPoint) (at' : Int) (limit : Int) : Option (Int × Int) :=
(stream_validWater (MWater.mk (MSpan.mk first.flow.lo first.flow.hi) (MSpan.mk first.warm.lo first.warm.hi))).bind fun (r1 : Bool) =>
(bif (!r1) then
(some (0, 1))
else
((stream_validLimit limit).bind fun (r2 : Bool) =>
(bif (((!r2) || decide (at' < 0)) || decide (((l.length : Nat) : Int) < at')) then
(some (0, 2))
else
((stream_Flow (MWater.mk (MSpan.mk first.flow.lo first.flow.hi) (MSpan.mk first.warm.lo first.warm.hi)) l).bind fun (r3 : (List MWater × Int × Int)) =>
(bif (r3.2.2 != 0) then
(some (0, r3.2.2))
else
((searchRoom fuel (MWater.mk (MSpan.mk first.flow.lo first.flow.hi) (MSpan.mk first.warm.lo first.warm.hi)) l at' limit 1099511627777).bind fun (r9 : Int) =>
(bif (r9 == 0) then
(some (0, 11))
else
(grd (InI64 (r9 - 1)) <|
some ((r9 - 1), 0)))))))))
set_option maxRecDepth 100000 in
set_option maxHeartbeats 4000000 in
theorem stream_Room_ok (fuel : Nat) (first : MWater) (l : List MPoint) (at' : Int) (limit : Int) (W : World) (A0 : Option Addr) (c0 : Nat) (h0 : l.length ≤ c0) (s0 : SlAt W A0 l.length 9 fun i => pZ (l.getD i default)) (res : Int × Int) (h : stream_Room fuel first l at' limit = some res) :
    Calls Go.Proofs.Try.prog 19 #[.agg #[.int .i64 first.flow.lo, .int .i64 first.flow.hi, .int .i64 first.warm.lo, .int .i64 first.warm.hi], .slice A0 l.length c0, .int .i64 at', .int .i64 limit] W fun e w' => e = .returned (.tuple #[.int .i64 res.1, .int .i64 res.2]) ∧ Below W.heap.size W w' := by
  refine sym_call (f := 19) (fn := Go.Proofs.Try.f19) (c := Go.Proofs.Try.f19.body.get rfl) Go.Proofs.Try.func19 rfl [.agg [iv (first.flow.lo), iv (first.flow.hi), iv (first.warm.lo), iv (first.warm.hi)], .sl 0, iv (at'), iv (limit)] (stream_Room_R l) [] (envOf [(0, ⟨A0, l.length, c0, 9⟩)]) allR (fun _ _ => rfl) (by kernel_rfl) (envOf_one trivial) ⟨s0.rd h0, trivial⟩ (AllRR.all _ _) trivial fun E a w S => ?_
  rw [stream_Room] at h
  refine sym_seq lay_ok mixed [(0, { g := 0 }), (1, { g := 1 }), (2, { g := 2 }), (3, { g := 3 })] [4, 5, 6, 7] [0, 1, 2, 3] (⟨[(4, .own 0 0), (5, .own 1 0), (6, .own 2 0), (7, .own 3 0)], ⟨[(0, .blk 25 [iv (first.flow.lo), iv (first.flow.hi), iv (first.warm.lo), iv (first.warm.hi)]), (1, .blk 26 [.sl 0]), (2, .blk 3 [iv (at')]), (3, .blk 3 [iv (limit)])], (stream_Room_R l), []⟩⟩) [] S (by kernel_rfl) (by kernel_rfl) (by kernel_rfl) trivial ?_
  clear S; intro E a w S
  refine wp_seq ?_
  obtain ⟨r1, e1, h⟩ := bind_some h
  refine sym_seq lay_ok mixed [(1, { res := .v (.bool r1) })] [4, 5, 6, 7, 18] [0, 1, 2, 3] (⟨[(4, .own 0 0), (5, .own 1 0), (6, .own 2 0), (7, .own 3 0), (18, .v (.bool (!r1)))], ⟨[(0, .blk 25 [iv (first.flow.lo), iv (first.flow.hi), iv (first.warm.lo), iv (first.warm.hi)]), (1, .blk 26 [.sl 0]), (2, .blk 3 [iv (at')]), (3, .blk 3 [iv (limit)])], (stream_Room_R l), []⟩⟩) [.call ⟨[], (stream_Room_R l), []⟩ 34 [.agg [iv (first.flow.lo), iv (first.flow.hi), iv (first.warm.lo), iv (first.warm.hi)]] (.v (.bool r1))] S (by kernel_rfl) (by kernel_rfl) (by kernel_rfl) ⟨⟨enters_34, fun _ W _ hm => stream_validWater_ok (MWater.mk (MSpan.mk first.flow.lo first.flow.hi) (MSpan.mk first.warm.lo first.warm.hi)) W r1 e1⟩, trivial⟩ ?_
  clear S; intro E a w S
  refine sym_if_last (b := (!r1)) S rfl (fun hb1 => ?_) (fun hb1 => ?_)
  · have h := bif_t hb1 h
    refine sym_seq lay_ok mixed [] [8, 9] [] (⟨[(8, iv (0)), (9, iv (1))], ⟨[], (stream_Room_R l), []⟩⟩) [] S (by kernel_rfl) (by kernel_rfl) (by kernel_rfl) trivial ?_
    clear S; intro E a w S
    refine wp_ret ?_
    refine out_then_ret ?_
    have h := Option.some.inj h
    subst h
    exact sym_ret lay_ok [iv (0), iv (1)] (by kernel_rfl) rfl S ⟨rfl, S.below rfl⟩
  · have h := bif_f hb1 h
    refine wp_skip ?_
    refine out_then_normal ?_
    refine wp_seq ?_
    obtain ⟨r2, e2, h⟩ := bind_some h
    refine sym_seq lay_ok mixed [(1, { res := .v (.bool r2) }), (4, { og := true }), (5, { og := true }), (6, { pk := true }), (8, { og := true }), (9, { og := true }), (10, { og := true }), (11, { og := true }), (12, { pk := true })] [4, 5, 6, 7, 31] [0, 1, 2, 3] (⟨[(4, .own 0 0), (5, .own 1 0), (6, .own 2 0), (7, .own 3 0), (31, .v (.bool (((!r2) || decide (at' < 0)) || decide (((l.length : Nat) : Int) < at'))))], ⟨[(0, .blk 25 [iv (first.flow.lo), iv (first.flow.hi), iv (first.warm.lo), iv (first.warm.hi)]), (1, .blk 26 [.sl 0]), (2, .blk 3 [iv (at')]), (3, .blk 3 [iv (limit)])], (stream_Room_R l), []⟩⟩) [.call ⟨[], (stream_Room_R l), []⟩ 38 [iv (limit)] (.v (.bool r2)), .imp (!(!r2)) (!(!r2)), .imp (!(!r2)) (!(!r2)), .imp (!((!r2) || decide (at' < 0))) (!((!r2) || decide (at' < 0))), .imp (!((!r2) || decide (at' < 0))) (!((!r2) || decide (at' < 0))), .imp (!((!r2) || decide (at' < 0))) (!((!r2) || decide (at' < 0))), .imp (!((!r2) || decide (at' < 0))) (!((!r2) || decide (at' < 0)))] S (by kernel_rfl) (by kernel_rfl) (by kernel_rfl) ⟨⟨enters_38, fun _ W _ hm => stream_validLimit_ok limit W r2 e2⟩, fun h => h, fun h => h, fun h => h, fun h => h, fun h => h, fun h => h, trivial⟩ ?_
    clear S; intro E a w S
    refine sym_if_last (b := (((!r2) || decide (at' < 0)) || decide (((l.length : Nat) : Int) < at'))) S rfl (fun hb2 => ?_) (fun hb2 => ?_)
    · have h := bif_t hb2 h
      refine sym_seq lay_ok mixed [] [8, 9] [] (⟨[(8, iv (0)), (9, iv (2))], ⟨[], (stream_Room_R l), []⟩⟩) [] S (by kernel_rfl) (by kernel_rfl) (by kernel_rfl) trivial ?_
      clear S; intro E a w S
      refine wp_ret ?_
      refine out_then_ret ?_
      have h := Option.some.inj h
      subst h
      exact sym_ret lay_ok [iv (0), iv (2)] (by kernel_rfl) rfl S ⟨rfl, S.below rfl⟩
    · have h := bif_f hb2 h
      refine wp_skip ?_
      refine out_then_normal ?_
      refine wp_seq ?_
      obtain ⟨r3, e3, h⟩ := bind_some h
      refine sym_seq lay_ok mixed [(2, { g := 4, res := .tup [.ltr 4 0, iv (r3.2.1), iv (r3.2.2)], hx := some (SlicesAre 0 [(wQZ r3.1)]) })] [4, 5, 6, 7, 12] [0, 1, 2, 3] (⟨[(4, .own 0 0), (5, .own 1 0), (6, .own 2 0), (7, .own 3 0), (12, iv (r3.2.2))], ⟨[(0, .blk 25 [iv (first.flow.lo), iv (first.flow.hi), iv (first.warm.lo), iv (first.warm.hi)]), (1, .blk 26 [.sl 0]), (2, .blk 3 [iv (at')]), (3, .blk 3 [iv (limit)])], (stream_Room_R l), []⟩⟩) [.callx ⟨[], (stream_Room_R l), []⟩ 4 13 [.agg [iv (first.flow.lo), iv (first.flow.hi), iv (first.warm.lo), iv (first.warm.hi)], .sl 0] (.tup [.ltr 4 0, iv (r3.2.1), iv (r3.2.2)]) (SlicesAre 0 [(wQZ r3.1)])] S (by kernel_rfl) (by kernel_rfl) (by kernel_rfl) ⟨⟨enters_13, fun E W _ hm => by obtain ⟨A0, c0, q0, l0, s0, _⟩ := Mem.sl hm (s := 0) rfl; simp only [SV.vals, SV.val, q0]; exact ((stream_Flow_ok (MWater.mk (MSpan.mk first.flow.lo first.flow.hi) (MSpan.mk first.warm.lo first.warm.hi)) l W A0 c0 l0 s0 r3 e3).mono fun e w' hx => by obtain ⟨v, h1, h2, h3, h4⟩ := hx; exact ⟨v, h1, h2, h3, h4.mono fun _ _ h => .inl h⟩)⟩, trivial⟩ ?_
      clear S; intro E a w S
      refine sym_seq lay_ok mixed [] [4, 5, 6, 7, 12, 40] [0, 1, 2, 3] (⟨[(4, .own 0 0), (5, .own 1 0), (6, .own 2 0), (7, .own 3 0), (12, iv (r3.2.2)), (40, .v (.bool (r3.2.2 != 0)))], ⟨[(0, .blk 25 [iv (first.flow.lo), iv (first.flow.hi), iv (first.warm.lo), iv (first.warm.hi)]), (1, .blk 26 [.sl 0]), (2, .blk 3 [iv (at')]), (3, .blk 3 [iv (limit)])], (stream_Room_R l), []⟩⟩) [] S (by kernel_rfl) (by kernel_rfl) (by kernel_rfl) trivial ?_
      clear S; intro E a w S
      refine sym_if_last (b := (r3.2.2 != 0)) S rfl (fun hb3 => ?_) (fun hb3 => ?_)
      · have h := bif_t hb3 h
        refine sym_seq lay_ok mixed [] [8, 9] [] (⟨[(8, iv (0)), (9, iv (r3.2.2))], ⟨[], (stream_Room_R l), []⟩⟩) [] S (by kernel_rfl) (by kernel_rfl) (by kernel_rfl) trivial ?_
        clear S; intro E a w S
        refine wp_ret ?_
        refine out_then_ret ?_
        have h := Option.some.inj h
        subst h
        exact sym_ret lay_ok [iv (0), iv (r3.2.2)] (by kernel_rfl) rfl S ⟨rfl, S.below rfl⟩
      · have h := bif_f hb3 h
        refine wp_skip ?_
        refine out_then_normal ?_
        refine sym_seq lay_ok mixed [(1, { g := 5 })] [4, 5, 6, 13] [0, 1, 2, 3, 5] (⟨[(4, .own 0 0), (5, .own 1 0), (6, .own 2 0), (13, .own 5 0)], ⟨[(0, .blk 25 [iv (first.flow.lo), iv (first.flow.hi), iv (first.warm.lo), iv (first.warm.hi)]), (1, .blk 26 [.sl 0]), (2, .blk 3 [iv (at')]), (3, .blk 3 [iv (limit)]), (5, .blk 50 [.fn 40 [.own 3 0]])], (stream_Room_R l), []⟩⟩) [] S (by kernel_rfl) (by kernel_rfl) (by kernel_rfl) trivial ?_
        clear S; intro E a w S
        refine sym_seq lay_ok mixed [] [14] [0, 1, 2, 3, 5] (⟨[(14, .fn 41 [.own 0 0, .own 1 0, .own 2 0, .own 5 0])], ⟨[(0, .blk 25 [iv (first.flow.lo), iv (first.flow.hi), iv (first.warm.lo), iv (first.warm.hi)]), (1, .blk 26 [.sl 0]), (2, .blk 3 [iv (at')]), (3, .blk 3 [iv (limit)]), (5, .blk 50 [.fn 40 [.own 3 0]])], (stream_Room_R l), []⟩⟩) [] S (by kernel_rfl) (by kernel_rfl) (by kernel_rfl) trivial ?_
        clear S; intro E a w S
        obtain ⟨r9, e9, h⟩ := bind_some h
        refine wp_seq ((wpIn_wide (n := 0)).1 (sym_openI (ro := none) ?_))
        refine sym_runI lay_ok [] 0 1 (⟨[(44, .fn 41 [.own 0 0, .own 1 0, .own 2 0, .own 5 0]), (14, .fn 41 [.own 0 0, .own 1 0, .own 2 0, .own 5 0])], ⟨[(0, .blk 25 [iv (first.flow.lo), iv (first.flow.hi), iv (first.warm.lo), iv (first.warm.hi)]), (1, .blk 26 [.sl 0]), (2, .blk 3 [iv (at')]), (3, .blk 3 [iv (limit)]), (5, .blk 50 [.fn 40 [.own 3 0]])], (stream_Room_R l), []⟩⟩) [] S (by kernel_rfl) (by kernel_rfl) (by kernel_rfl) trivial ?_
        clear S; intro E a w S
        have hrd := S.mem.rd 0 _ rfl
        have n24 : E.ρ 2 ≠ E.ρ 3 := fun e => absurd (S.sep.inj _ _ _ _ _ _ (rfl : look (⟨[(44, .fn 41 [.own 0 0, .own 1 0, .own 2 0, .own 5 0]), (14, .fn 41 [.own 0 0, .own 1 0, .own 2 0, .own 5 0])], ⟨[(0, .blk 25 [iv (first.flow.lo), iv (first.flow.hi), iv (first.warm.lo), iv (first.warm.hi)]), (1, .blk 26 [.sl 0]), (2, .blk 3 [iv (at')]), (3, .blk 3 [iv (limit)]), (5, .blk 50 [.fn 40 [.own 3 0]])], (stream_Room_R l), []⟩⟩ : SState).m.blks 2 = _) rfl e) (by decide)
        have hap : ∀ k, Apart W.heap.size allR (look (⟨[(44, .fn 41 [.own 0 0, .own 1 0, .own 2 0, .own 5 0]), (14, .fn 41 [.own 0 0, .own 1 0, .own 2 0, .own 5 0])], ⟨[(0, .blk 25 [iv (first.flow.lo), iv (first.flow.hi), iv (first.warm.lo), iv (first.warm.hi)]), (1, .blk 26 [.sl 0]), (2, .blk 3 [iv (at')]), (3, .blk 3 [iv (limit)]), (5, .blk 50 [.fn 40 [.own 3 0]])], (stream_Room_R l), []⟩⟩ : SState).m.blks) (⟨[(44, .fn 41 [.own 0 0, .own 1 0, .own 2 0, .own 5 0]), (14, .fn 41 [.own 0 0, .own 1 0, .own 2 0, .own 5 0])], ⟨[(0, .blk 25 [iv (first.flow.lo), iv (first.flow.hi), iv (first.warm.lo), iv (first.warm.hi)]), (1, .blk 26 [.sl 0]), (2, .blk 3 [iv (at')]), (3, .blk 3 [iv (limit)]), (5, .blk 50 [.fn 40 [.own 3 0]])], (stream_Room_R l), []⟩⟩ : SState).m.grs E k → k ≠ E.ρ 0 ∧ k ≠ E.ρ 1 ∧ k ≠ E.ρ 2 ∧ k ≠ E.ρ 5 ∧ k ≠ E.ρ 3 ∧ True := fun k hk => ⟨fun e => hk.1 (.inl ⟨0, _, _, rfl, e.symm⟩), fun e => hk.1 (.inl ⟨1, _, _, rfl, e.symm⟩), fun e => hk.1 (.inl ⟨2, _, _, rfl, e.symm⟩), fun e => hk.1 (.inl ⟨5, _, _, rfl, e.symm⟩), fun e => hk.1 (.inl ⟨3, _, _, rfl, e.symm⟩), trivial⟩
        have r0 : InR (fun k => k ≠ E.ρ 0 ∧ k ≠ E.ρ 1 ∧ k ≠ E.ρ 2 ∧ k ≠ E.ρ 5 ∧ k ≠ E.ρ 3 ∧ True) (E.sl 0).A l.length := fun b off hl hA => hap b (S.sep.rd 0 _ b off rfl hl hA)
        have hL : HeldIn allR w (RBox (MWater.mk (MSpan.mk first.flow.lo first.flow.hi) (MSpan.mk first.warm.lo first.warm.hi)) l at' limit (vfun [.pointer (some ⟨E.ρ 0, 0, none⟩), .pointer (some ⟨E.ρ 1, 0, none⟩), .pointer (some ⟨E.ρ 2, 0, none⟩), .pointer (some ⟨E.ρ 5, 0, none⟩)])) := by
          have h1 := (HeldIn.mono (R' := allR) (S.own_blk (g := 0) rfl rfl) (fun _ _ _ => trivial)).and ((HeldIn.mono (R' := allR) (S.own_blk (g := 1) rfl rfl) (fun _ _ _ => trivial)).and ((HeldIn.mono (R' := allR) (S.own_blk (g := 2) rfl rfl) (fun _ _ _ => trivial)).and ((HeldIn.mono (R' := allR) (S.own_blk (g := 5) rfl rfl) (fun _ _ _ => trivial)).and ((HeldIn.mono (R' := allR) (S.own_blk (g := 3) rfl rfl) (fun _ _ _ => trivial)).and (HeldIn.mono (R' := allR) (S.rd_held (s := 0) rfl (fun i hi => by simp)) (fun _ _ _ => trivial))))))
          refine h1.imp fun w' hw => ⟨_, _, _, _, _, E.sl 0, rfl, rfl, rfl, rfl, n24, r0, hw.1, ?_, hw.2.2.1, hw.2.2.2.1, hw.2.2.2.2.1, hw.2.2.2.2.2⟩
          have h2 := hw.2.1
          simp only [SV.vals, SV.val, hrd.1] at h2
          exact h2
        refine sym_callI rfl rfl rfl (vs := #[.int .i64 1099511627777, .func (.func 41) #[] #[.pointer (some ⟨E.ρ 0, 0, none⟩), .pointer (some ⟨E.ρ 1, 0, none⟩), .pointer (some ⟨E.ρ 2, 0, none⟩), .pointer (some ⟨E.ρ 5, 0, none⟩)]]) ?_ enters_44 (searchRoom_ok fuel (MWater.mk (MSpan.mk first.flow.lo first.flow.hi) (MSpan.mk first.warm.lo first.warm.hi)) l at' limit 1099511627777 w (vfun [.pointer (some ⟨E.ρ 0, 0, none⟩), .pointer (some ⟨E.ρ 1, 0, none⟩), .pointer (some ⟨E.ρ 2, 0, none⟩), .pointer (some ⟨E.ρ 5, 0, none⟩)]) (vfun_one _ ⟨rfl, rfl, rfl, rfl, trivial⟩) hL r9 e9) ?_
        · have e1 := S.slot 44 _ rfl
          simp [Act.eval, e1, SV.val, SV.vals]
        rintro e w' ⟨rfl, hk⟩
        refine .inl ⟨_, rfl, ?_⟩
        have S2 : St _ _ E a w' := StF.later S hk
        have S3 := S2.put (d := 45) (by kernel_rfl) (iv (r9))
        clear S S2
        refine sym_runIP (n := 0) (ro := none) lay_ok [] 2 1 [15] [] (⟨[(15, iv (r9))], ⟨[], (stream_Room_R l), []⟩⟩) [] S3 (by kernel_rfl) (by kernel_rfl) (by kernel_rfl) trivial ?_
        clear S3; intro E a w S
        refine sym_doneI rfl ?_
        refine out_then_normal ?_
        refine wp_seq ?_
        refine sym_seq lay_ok mixed [] [15, 47] [] (⟨[(15, iv (r9)), (47, .v (.bool (r9 == 0)))], ⟨[], (stream_Room_R l), []⟩⟩) [] S (by kernel_rfl) (by kernel_rfl) (by kernel_rfl) trivial ?_
        clear S; intro E a w S
        refine sym_if_last (b := (r9 == 0)) S rfl (fun hb4 => ?_) (fun hb4 => ?_)
        · have h := bif_t hb4 h
          refine sym_seq lay_ok mixed [] [8, 9] [] (⟨[(8, iv (0)), (9, iv (11))], ⟨[], (stream_Room_R l), []⟩⟩) [] S (by kernel_rfl) (by kernel_rfl) (by kernel_rfl) trivial ?_
          clear S; intro E a w S
          refine wp_ret ?_
          refine out_then_ret ?_
          have h := Option.some.inj h
          subst h
          exact sym_ret lay_ok [iv (0), iv (11)] (by kernel_rfl) rfl S ⟨rfl, S.below rfl⟩
        · have h := bif_f hb4 h
          refine wp_skip ?_
          refine out_then_normal ?_
          obtain ⟨g1, h⟩ := grd_some h
          refine sym_seq lay_ok mixed [] [8, 9] [] (⟨[(8, iv ((r9 - 1))), (9, iv (0))], ⟨[], (stream_Room_R l), []⟩⟩) [.rng .i64 (r9 - 1)] S (by kernel_rfl) (by kernel_rfl) (by kernel_rfl) ⟨rngI64 g1, trivial⟩ ?_
          clear S; intro E a w S
          refine wp_ret ?_
          have h := Option.some.inj h
          subst h
          exact sym_ret lay_ok [iv ((r9 - 1)), iv (0)] (by kernel_rfl) rfl S ⟨rfl, S.below rfl⟩
end Go.Proofs.Ytlcccomdijdkaaa
namespace Go.Proofs.Ytlcccomdijdkaaa
open Go.RowKit

variable {P : Program} {X : Ctx} {E : Env} {a : Act} {w : World} {st : SState}

def arrSV (L : List Int) : List SV := (List.range 168).map fun i => .v (.int .i64 (L.getD i 0))
def arrV (L : List Int) : Array Value := ((List.range 168).map fun i => Value.int .i64 (L.getD i 0)).toArray
/-- element i is x now -/
def arrUp (L : List Int) (i : Nat) (x : Int) : List Int := (List.range 168).map fun j => if j = i then x else L.getD j 0
/-- filled from a slice -/
def arrCopy (L room : List Int) : List Int := (List.range 168).map fun j => if j < room.length then room.getD j 0 else L.getD j 0
theorem arr_vals (E : Env) (L : List Int) : SV.vals E (arrSV L) = (arrV L).toList := by
  simp only [SV.vals_map, arrSV, arrV, List.map_map]
  rfl
theorem arr_valsA (E : Env) (L : List Int) : (SV.vals E (arrSV L)).toArray = arrV L := by rw [arr_vals]
theorem arr_size (L : List Int) : (arrV L).size = 168 := by simp [arrV]
theorem arr_get (L : List Int) {i : Nat} (hi : i < 168) : (arrV L)[i]? = some (.int .i64 (L.getD i 0)) := by
  simp [arrV, hi]
theorem arr_up (L : List Int) {i : Nat} (x : Int) (hi : i < 168) : (arrV L).toList.take i ++ [Value.int .i64 x] ++ (arrV L).toList.drop (i + 1) = (arrV (arrUp L i x)).toList := by
  have hl : (arrV L).toList.length = 168 := by simp [arrV]
  apply List.ext_getElem?
  intro j
  by_cases hj : j < 168
  · have h2 : (arrV (arrUp L i x)).toList[j]? = some (.int .i64 ((arrUp L i x).getD j 0)) := by rw [Array.getElem?_toList]; exact arr_get _ hj
    rw [h2]
    have h3 : (arrUp L i x).getD j 0 = if j = i then x else L.getD j 0 := by simp [arrUp, hj]
    rw [h3]
    by_cases h1 : j < i
    · rw [List.append_assoc, List.getElem?_append_left (by simp [hl]; omega), List.getElem?_take_of_lt h1, Array.getElem?_toList, arr_get L hj, if_neg (by omega)]
    · by_cases h4 : j = i
      · subst h4
        rw [List.append_assoc, List.getElem?_append_right (by simp [hl]; omega)]
        simp [hl, Nat.min_eq_left (Nat.le_of_lt hi)]
      · rw [List.getElem?_append_right (by simp [hl]; omega)]
        have e : j - ((arrV L).toList.take i ++ [Value.int .i64 x]).length = j - (i + 1) := by simp [hl]; omega
        rw [e, List.getElem?_drop, show i + 1 + (j - (i + 1)) = j by omega, Array.getElem?_toList, arr_get L hj, if_neg h4]
  · rw [List.getElem?_eq_none (by simp [hl]; omega), List.getElem?_eq_none (by simp [arrV]; omega)]
/-- an element's address -/
theorem pure_idx {lay : Lay} (hl : LayOK P lay) {B t g n : Nat} {m : MState} {x y : Operand} {k : IntKind} {i : Int} {z : List Value} {eq : Bool} {by' : Nat} (ht : look lay t = some ⟨.arr 168 1 false, n, z, eq, by'⟩) (hi : 0 ≤ i ∧ i < 168) : (Ob.pure m (.indexAddr t x y) [.own g 0, .v (.int k i)] (.own g i.toNat)).holds P B := by
  intro E w R ρ dst ty pos aft gd _ hx
  have hx' : ρ x = .pointer (some ⟨E.ρ g, 0, none⟩) ∧ ρ y = .int k i := by simpa [Op.operands, SV.vals, SV.val] using hx
  obtain ⟨u, hu, hmm⟩ := (hl t _ ht).under
  obtain ⟨e, rfl, hkn, hes, _⟩ := hmm
  simp only [execOp, Instr.indexAt, hx'.1, hx'.2, asIntOf, Sem.run_bind, Sem.run_pure, Result.andThen_ok, run_underlying hu, Instr.sureAddr]
  rw [if_pos (by omega)]
  simp only [Sem.run_bind, knownB.run_size hkn, Result.andThen_ok, Sem.run_pure, ← hes, add_plain', SV.val, Nat.mul_one, Nat.zero_add]
/-- an element is read -/
theorem pure_ldIdx {lay : Lay} (hl : LayOK P lay) {B t g T : Nat} {m : MState} {x : Operand} {i : Int} {L : List Int} {d : TyD} (ht : look lay t = some d) (hk : d.k = .int .i64) (hn : d.n = 1) (hm : look m.blks g = some (.blk T (arrSV L))) (hi : 0 ≤ i ∧ i < 168) : (Ob.pure m (.load t x) [.own g i.toNat] (.v (.int .i64 (L.getD i.toNat 0)))).holds P B := by
  intro E w R ρ dst ty pos aft gd hM hx
  have hx' : ρ x = .pointer (some ⟨E.ρ g, i.toNat, none⟩) := by simpa [Op.operands, SV.vals, SV.val] using hx
  have hB := hM.blk g _ _ hm
  rw [arr_valsA] at hB
  have := run_load_cells (E := E) (w := w) hl ht (b := E.ρ g) (ao := i.toNat) (off := 0) (cs := [.v (.int .i64 (L.getD i.toNat 0))]) (v := .v (.int .i64 (L.getD i.toNat 0))) (fun j y hj => by
    rw [hn] at hj
    cases j with
    | zero =>
      simp at hj
      subst hj
      rw [hB.cell, Nat.add_zero, arr_get L (by omega)]
      rfl
    | succ j => simp at hj) (by rw [hn]; simp) (.inr hn) (by rw [hk]; rfl)
  simp only [execOp, hx', Sem.run_bind, this, Result.andThen_ok, Sem.run_pure]
/-- all of it, as a slice -/
theorem pure_sliceArr {lay : Lay} (hl : LayOK P lay) {B t g n : Nat} {m : MState} {x : Operand} {z : List Value} {eq : Bool} {by' : Nat} (ht : look lay t = some ⟨.arr 168 1 false, n, z, eq, by'⟩) : (Ob.pure m (.slice t x none none none) [.own g 0] (.row g 0 168 168)).holds P B := by
  intro E w R ρ dst ty pos aft gd _ hx
  have hx' : ρ x = .pointer (some ⟨E.ρ g, 0, none⟩) := by simpa [Op.operands, SV.vals, SV.val] using hx
  obtain ⟨u, hu, hmm⟩ := (hl t _ ht).under
  obtain ⟨e, rfl, hkn, hes, _⟩ := hmm
  simp [execOp, Instr.sliceAt, Instr.sliceBounds, hx', Sem.run_bind, Sem.run_pure, Result.andThen_ok, run_underlying hu, Instr.sureAddr, knownB.run_size hkn, SV.val, Result.andThen, add_plain']
/-- an element is written -/
theorem sym_storeArr {lay : Lay} (hl : LayOK P lay) {ops l r : List Oper} {o : Oper} {Q : Exit → Act → World → Prop} (hL : l = o :: r) (x y : Operand) (t : TypeId) (ho : o.op = .store t x y) (hgd : o.guard = none) (hdst : o.dst = none)
    (S : St X st E a w) (g T : Nat) (i : Int) (L : List Int) (u : Int) (d : TyD) (hx : opnd st.slots x = some (.own g i.toNat)) (hy : opnd st.slots y = some (.v (.int .i64 u))) (hg : look st.m.blks g = some (.blk T (arrSV L))) (ht : look lay t = some d) (hn : d.n = 1) (hi : 0 ≤ i ∧ i < 168)
    (kk : ∀ a' w', St X { st with m := { st.m with blks := (g, .blk T (arrSV (arrUp L i.toNat u))) :: st.m.blks } } E a' w' → wpList P ops.toArray Q r a' w') : wpList P ops.toArray Q l a w := by
  subst hL
  have ev : ∀ z sv, opnd st.slots z = some sv → a.eval z = sv.val E := fun z sv hz => by
    cases z with
    | tmp t => simp only [opnd] at hz; have := S.slot t sv hz; simp [Act.eval, this]
    | const v => simp [opnd] at hz; subst hz; rfl
    | global g => simp [opnd] at hz; subst hz; rfl
    | func f => simp [opnd] at hz; subst hz; rfl
  have hB := S.mem.blk g _ _ hg
  have hB' := hB
  rw [arr_valsA] at hB'
  have hst := run_storeCells_at (P := P) (E.ρ g) i.toNat T [.int .i64 u] 0 (arrV L) w hB' (by simp [arr_size]; omega) (fun v hv => by simp at hv; subst hv; rfl)
  have hrun : (Instr.storeAt t (a.eval x) (a.eval y)).run P w = .ok () (w.setRow (E.ρ g) (SV.vals E (arrSV (arrUp L i.toNat u))).toArray) := by
    rw [ev x _ hx, ev y _ hy]
    unfold Instr.storeAt storeVar
    simp only [SV.val, Instr.sureAddr, Sem.run_bind, Sem.run_pure, Result.andThen_ok, (hl t d ht).run_size, Value.cells]
    have hsz1 : (#[Value.int IntKind.i64 u] : Array Value).size = d.n := by simp [hn]
    simp only [hsz1, ne_eq, not_true_eq_false, if_false]
    simp only [Nat.add_zero, List.length_cons, List.length_nil, Nat.zero_add] at hst
    rw [arr_up L u (by omega)] at hst
    rw [arr_valsA]
    simpa using hst
  have S' := StF.store S hg (arrSV (arrUp L i.toNat u))
  refine wpList_plain hgd fun K hK => ?_
  unfold Oper.wp
  have e : (execOp a.eval o).run P w = .ok .skip (w.setRow (E.ρ g) (SV.vals E (arrSV (arrUp L i.toNat u))).toArray) := by
    obtain ⟨dst, op, ty, pos, aft, gd⟩ := o
    simp only at ho
    subst ho
    simp only [execOp, Sem.run_bind, hrun, Result.andThen_ok, Sem.run_pure]
  rw [e]
  simp only [Oper.upon]
  refine hK _ _ (kk _ _ ?_)
  unfold St
  simp only [look_upd, hdst]
  have S2 := StF.putD (dst := none) S' (fun d h => by cases h) (.v undef)
  exact S2
/-- it is filled from a slice that is read -/
theorem sym_copyArr {lay : Lay} (hl : LayOK P lay) {ops l r : List Oper} {o : Oper} {Po : Exit → Act → World → Prop} (hL : l = o :: r) (x y : Operand) (t : TypeId) (ho : o.op = .call { callee := .builtin .copy, args := #[x, y], argTypes := #[t, t] }) (hgd : o.guard = none)
    (S : St X st E a w) (g T s : Nat) (L room : List Int) (q : Q) (hq1 : q = (iQZ room)) {e0 es n0 : Nat} {z : List Value} {eq : Bool} {by' : Nat} (d : TyD) (hx : opnd st.slots x = some (.row g 0 168 168)) (hy : opnd st.slots y = some (.sl s)) (hq : look st.m.rds s = some q) (hg : look st.m.blks g = some (.blk T (arrSV L)))
    (ht : look lay t = some ⟨.sli e0 es, n0, z, eq, by'⟩) (hd : look lay e0 = some d) (hn : d.n = 1) (hlen : room.length ≤ 168) (hdn : ∀ e, o.dst = some e → e < X.n)
    (kk : ∀ a' w', St X { slots := (match o.dst with | some d => (d, .v (.int .i64 room.length)) :: st.slots | none => st.slots), m := { st.m with blks := (g, .blk T (arrSV (arrCopy L room))) :: st.m.blks } } E a' w' → wpList P ops.toArray Po r a' w') : wpList P ops.toArray Po l a w := by
  subst hL hq1
  have ev : ∀ z sv, opnd st.slots z = some sv → a.eval z = sv.val E := fun z sv hz => by
    cases z with
    | tmp t => simp only [opnd] at hz; have := S.slot t sv hz; simp [Act.eval, this]
    | const v => simp [opnd] at hz; subst hz; rfl
    | global g => simp [opnd] at hz; subst hz; rfl
    | func f => simp [opnd] at hz; subst hz; rfl
  have hB := S.mem.blk g _ _ hg
  have hB' := hB
  rw [arr_valsA] at hB'
  obtain ⟨u, hu, hmm⟩ := (hl t _ ht).under
  obtain ⟨rfl, hkn, hes⟩ := hmm
  obtain ⟨_, i, hi, his, _⟩ := (hl e0 d hd).size
  have hsz : (P.info? e0).map (·.size) = some 1 := by rw [hi]; simp [his, hn]
  obtain ⟨q1, q2, q3, q4⟩ := S.mem.rd s _ hq
  simp only at q1 q2 q3 q4
  obtain ⟨cs, hcs⟩ : ∃ cs : List Value, cs = room.map (Value.int .i64) := ⟨_, rfl⟩
  have hgetc : ∀ j v, cs[j]? = some v → v = .int .i64 (room.getD j default) ∧ j < room.length := fun j v hj => by
    rw [hcs, List.getElem?_map] at hj
    cases hr : room[j]? with
    | none => rw [hr] at hj; simp at hj
    | some y =>
      rw [hr] at hj
      simp at hj
      exact ⟨by rw [← hj]; simp [List.getD, hr], (List.getElem?_eq_some_iff.1 hr).1⟩
  have hclen : cs.length = room.length := by rw [hcs]; simp
  have hrow : (arrV L).toList.take 0 ++ cs ++ (arrV L).toList.drop (0 + cs.length) = (arrV (arrCopy L room)).toList := by
    have hl' : (arrV L).toList.length = 168 := by simp [arrV]
    apply List.ext_getElem?
    intro j
    rw [List.take_zero, List.nil_append, Nat.zero_add]
    by_cases hj : j < 168
    · have h2 : (arrV (arrCopy L room)).toList[j]? = some (.int .i64 ((arrCopy L room).getD j 0)) := by rw [Array.getElem?_toList]; exact arr_get _ hj
      rw [h2]
      have h3 : (arrCopy L room).getD j 0 = if j < room.length then room.getD j 0 else L.getD j 0 := by simp [arrCopy, hj]
      rw [h3]
      by_cases h1 : j < room.length
      · rw [List.getElem?_append_left (by omega), if_pos h1]
        cases hc : cs[j]? with
        | none => rw [List.getElem?_eq_none_iff] at hc; omega
        | some v => rw [(hgetc j v hc).1]; rfl
      · rw [List.getElem?_append_right (by omega), if_neg h1, List.getElem?_drop, show cs.length + (j - cs.length) = j by omega, Array.getElem?_toList, arr_get L hj]
    · rw [List.getElem?_eq_none (by simp [hl']; omega), List.getElem?_eq_none (by simp [arrV]; omega)]
  have hrun : (execOp a.eval o).run P w = .ok (.value (goInt room.length)) (w.setRow (E.ρ g) (SV.vals E (arrSV (arrCopy L room))).toArray) ∨ ((execOp a.eval o).run P w = .ok (.value (goInt room.length)) w ∧ arrSV (arrCopy L room) = arrSV L) := by
    obtain ⟨dst, op, ty, pos, aft, gd⟩ := o
    simp only at ho
    subst ho
    have e1 := ev x _ hx
    have e2 := ev y _ hy
    simp only [SV.val] at e1 e2
    rcases Nat.eq_zero_or_pos room.length with h0 | h0
    · right
      refine ⟨?_, ?_⟩
      · have := run_copy_none (P := P) w t t ty e0 (some ⟨E.ρ g, 0, none⟩) (E.sl s).A 168 168 (E.sl s).len (E.sl s).cap hu hsz (by rw [q1, h0]; rfl)
        simp [execOp, resolve, Sem.run_bind, e1, e2, Sem.run_pure, Result.andThen, invoke, builtin, this, h0]
      · have : arrCopy L room = (List.range 168).map fun j => L.getD j 0 := by simp [arrCopy, h0]
        unfold arrSV
        apply List.map_congr_left
        intro j hj
        rw [this]
        have := List.mem_range.1 hj
        simp [this]
    · left
      obtain ⟨b, off, hA, hlt, hc⟩ := q4 h0
      have := run_copy_row (P := P) w t t ty e0 (E.ρ g) 0 168 168 ⟨b, off, none⟩ room.length (E.sl s).cap (arrV L) T cs hu hsz hB' (by rw [hclen]; exact (Nat.min_eq_left hlen).symm) (fun j v hj => by
        obtain ⟨rfl, hjl⟩ := hgetc j v hj
        rw [add_plain']
        have := hc j hjl 0 _ (by simp; rfl)
        simpa using this) (by rw [arr_size, hclen]; omega) (fun v hv => by rw [hcs] at hv; obtain ⟨y, _, rfl⟩ := List.mem_map.1 hv; rfl)
      rw [hrow] at this
      rw [arr_valsA]
      simp [execOp, resolve, Sem.run_bind, e1, e2, Sem.run_pure, Result.andThen, invoke, builtin, hA, q1, this, hclen]
  refine wpList_plain hgd fun K hK => ?_
  unfold Oper.wp
  have S' := StF.store S hg (arrSV (arrCopy L room))
  rcases hrun with e | ⟨e, e2⟩
  · rw [e]
    simp only [Oper.upon]
    refine hK _ _ (kk _ _ ?_)
    have S2 := StF.putD (dst := o.dst) S' hdn (.v (.int .i64 room.length))
    unfold St
    cases hdst : o.dst with
    | none => rw [hdst] at S2; simp only [look_upd]; exact S2
    | some d => rw [hdst] at S2; simp only [look_upd]; exact S2
  · rw [e]
    simp only [Oper.upon]
    refine hK _ _ (kk _ _ ?_)
    have S3 : St X { st with m := { st.m with blks := (g, .blk T (arrSV (arrCopy L room))) :: st.m.blks } } E a w := S.recell hg (by rw [e2])
    have S2 := StF.putD (dst := o.dst) S3 hdn (.v (.int .i64 room.length))
    unfold St
    cases hdst : o.dst with
    | none => rw [hdst] at S2; exact S2
    | some d => rw [hdst] at S2; rw [look_upd]; exact S2
end Go.Proofs.Ytlcccomdijdkaaa
namespace Go.Proofs.Ytlcccomdijdkaaa
open Go.RowKit

variable {P : Program} {X : Ctx} {E : Env} {a : Act} {w : World} {st : SState}

theorem pure_idxRow {lay : Lay} (hl : LayOK P lay) {B t g n j len cap e es : Nat} {m : MState} {x y : Operand} {k : IntKind} {z : List Value} {eq : Bool} {by' : Nat} (ht : look lay t = some ⟨.sli e es, n, z, eq, by'⟩) (hj : j < len) : (Ob.pure m (.indexAddr t x y) [.row g 0 len cap, .v (.int k j)] (.own g (j * es))).holds P B := by
  intro E w R ρ dst ty pos aft gd _ hx
  have hx' : ρ x = .slice (some ⟨E.ρ g, 0, none⟩) len cap ∧ ρ y = .int k j := by simpa [Op.operands, SV.vals, SV.val] using hx
  obtain ⟨u, hu, hmm⟩ := (hl t _ ht).under
  obtain ⟨rfl, hkn, hes⟩ := hmm
  simp only [execOp, Instr.indexAt, hx'.1, hx'.2, asIntOf, Sem.run_bind, Sem.run_pure, Result.andThen_ok, run_underlying hu]
  rw [if_pos (by omega)]
  simp only [Sem.run_bind, knownB.run_size hkn, Result.andThen_ok, Sem.run_pure, ← hes, add_plain', SV.val, Int.toNat_natCast, Nat.zero_add]
theorem pure_capNil {lay : Lay} (hl : LayOK P lay) {B t n e es : Nat} {m : MState} {x : Operand} {z : List Value} {eq : Bool} {by' : Nat} (ht : look lay t = some ⟨.sli e es, n, z, eq, by'⟩) : (Ob.pure m (.call ⟨.builtin .cap, #[x], #[t]⟩) [.v (.slice none 0 0)] (.v (.int .i64 0))).holds P B := by
  intro E w R ρ dst ty pos aft gd _ hx
  have hx' : ρ x = .slice none 0 0 := by simpa [Op.operands, Call.operands, SV.vals, SV.val] using hx
  obtain ⟨u, hu, hmm⟩ := (hl t _ ht).under
  obtain ⟨rfl, _⟩ := hmm
  simp [execOp, resolve, Sem.run_bind, Sem.run_pure, Result.andThen, invoke, builtin, Builtin.cap_, run_underlying hu, goInt, go_sem, hx', SV.val]
theorem pure_sliceNil {lay : Lay} (hl : LayOK P lay) {B t n e es : Nat} {m : MState} {x y : Operand} {z : List Value} {eq : Bool} {by' : Nat} (ht : look lay t = some ⟨.sli e es, n, z, eq, by'⟩) : (Ob.pure m (.slice t x none (some y) none) [.v (.slice none 0 0), .v (.int .i64 0)] (.v (.slice none 0 0))).holds P B := by
  intro E w R ρ dst ty pos aft gd _ hx
  have hx' : ρ x = .slice none 0 0 ∧ ρ y = .int .i64 0 := by simpa [Op.operands, SV.vals, SV.val] using hx
  obtain ⟨u, hu, hmm⟩ := (hl t _ ht).under
  obtain ⟨rfl, hkn, hes⟩ := hmm
  simp [execOp, Instr.sliceAt, Instr.slice, Instr.sliceBounds, Instr.sliceBound, hx'.1, hx'.2, Sem.run_bind, Sem.run_pure, Result.andThen_ok, run_underlying hu, knownB.run_size hkn, SV.val, Result.andThen, asInt, asIntOf]
/-- a row of n zeros, and its part of no length -/
def ZRow (q : GQ) (n : Nat) : (Nat → Value) → World → Prop := fun v w => ∃ b cap, v 0 = .slice (some ⟨b, 0, none⟩) n cap ∧ v 1 = .slice (some ⟨b, 0, none⟩) 0 cap ∧ GrAt w 0 q (v 1)
theorem zrow_ext {lay : Lay} (hl : LayOK P lay) {B g t tn e es n1 n2 : Nat} {x y : Operand} {z1 z2 : List Value} {eq1 eq2 : Bool} {by1 by2 : Nat} {kn : IntKind} {d : TyD} (ht : look lay t = some ⟨.sli e es, n1, z1, eq1, by1⟩) (htn : look lay tn = some ⟨.int kn, n2, z2, eq2, by2⟩) (hd : look lay e = some d) (hes : d.n = es) (hpos : 0 < es) (hby : d.by' ≤ 1000) {i : Int} (hi : 0 < i ∧ i ≤ 1000000) :
    (Ob.ext g (.call ⟨.builtin .append, #[x, y], #[t, tn]⟩) [.v (.slice none 0 0), .v (.int .i64 i)] (.ltr g 0) (ZRow ⟨e, es, 0, []⟩ i.toNat)).holds P B := by
  intro E w ρ dst ty pos aft gd hx
  have hx' : ρ x = .slice none 0 0 ∧ ρ y = .int .i64 i := by simpa [Op.operands, Call.operands, SV.vals, SV.val] using hx
  obtain ⟨u, hu, hmm⟩ := (hl t _ ht).under
  obtain ⟨rfl, _⟩ := hmm
  obtain ⟨u2, hu2, hmm2⟩ := (hl tn _ htn).under
  simp only at hmm2
  subst hmm2
  obtain ⟨_, inf, hinf, his, zv, hzv, hzc⟩ := (hl e d hd).size
  have hb : inf.bytes = d.by' := by have := (hl e d hd).bytes; simpa [Program.bytesOf, hinf] using this
  obtain ⟨n, rfl⟩ : ∃ n : Nat, i = n := ⟨i.toNat, by omega⟩
  have hmul : n * inf.bytes ≤ 1000000 * 1000 := Nat.mul_le_mul (by omega) (by rw [hb]; exact hby)
  have hrun := Lib.run_append_nil_zeros (P := P) w t tn ty e inf zv .i64 kn hu hu2 hinf hzv n (by omega) (by omega) (by omega) (by omega)
  have hzs : zv.cells.size = es := by
    have := (hl e d hd).zlen
    rw [← hes, ← this, ← hzc]; simp
  have hge := grownCap_ge w n 0 e
  refine ⟨vfun [.slice (some ⟨w.heap.size, 0, none⟩) n (grownCap w n 0 e), .slice (some ⟨w.heap.size, 0, none⟩) 0 (grownCap w n 0 e)], w.drew.alloc (.cells (Builtin.zeroCells zv.cells n ++ Builtin.zeroCells zv.cells (grownCap w n 0 e - n)) e), ?_, (Below.refl _ _).drew.alloc (Nat.le_refl _) _, vfun_one _ ⟨rfl, rfl, trivial⟩, ?_⟩
  · simp only [execOp, resolve, Sem.run_bind, Sem.run_pure, Result.andThen_ok, invoke, builtin, hx'.1, hx'.2, List.map_toArray, List.map_cons, List.map_nil, hrun]
    simp [SV.val, Env.updX, vfun]
  · refine ⟨fun k => k = w.heap.size, fun k hk => by subst hk; exact ⟨by simp, Nat.le_refl _⟩, fun w' hw => ⟨w.heap.size, grownCap w n 0 e, by simp [vfun], rfl, ?_⟩⟩
    refine GrAt.move ?_ (fun b hb => hw b ?_)
    · exact World.ownsRow_made (w.drew) _ _ (Nat.zero_le _) (grownCap_le_maxLen w n 0 e (by simp only [maxLen]; omega)) (by simp only [Array.size_append, size_zeroCells, hzs, ← Nat.add_mul]; congr 1; omega)
    · simpa [vfun, Value.ownBlock] using hb.symm
theorem pure_sliceZ {lay : Lay} (hl : LayOK P lay) {B t n e es g k : Nat} {m : MState} {x y : Operand} {z : List Value} {eq : Bool} {by' : Nat} {q : GQ} (ht : look lay t = some ⟨.sli e es, n, z, eq, by'⟩) (hm : look m.blks g = some (.held (ZRow q k))) : (Ob.pure m (.slice t x none (some y) none) [.ltr g 0, .v (.int .i64 0)] (.ltr g 1)).holds P B := by
  intro E w R ρ dst ty pos aft gd hM hx
  have hx' : ρ x = E.x g 0 ∧ ρ y = .int .i64 0 := by simpa [Op.operands, SV.vals, SV.val] using hx
  obtain ⟨b, cap, h0, h1, _⟩ := (hM.held g _ hm).out
  obtain ⟨u, hu, hmm⟩ := (hl t _ ht).under
  obtain ⟨rfl, hkn, hes⟩ := hmm
  simp [execOp, Instr.sliceAt, Instr.slice, Instr.sliceBounds, Instr.sliceBound, hx'.1, hx'.2, h0, h1, Sem.run_bind, Sem.run_pure, Result.andThen_ok, run_underlying hu, knownB.run_size hkn, SV.val, Result.andThen, asInt, asIntOf, add_plain']
/-- what is held of a row hangs on its block -/
theorem HeldIn.gr {R : Nat → Prop} {q : GQ} {v : Value} {Φ : World → Prop} (h : HeldIn R w Φ) (hΦ : ∀ w, Φ w → GrAt w 0 q v) : ∀ b, v.ownBlock = some b → R b := fun b hb => by
  obtain ⟨D, hD, hk⟩ := h
  by_cases hdb : D b
  · exact (hD b hdb).2
  · exfalso
    have h1 := hΦ _ (hk { w with heap := w.heap.setIfInBounds b (.deferred none) } fun k hkD => by
      have hne : b ≠ k := fun e => hdb (e ▸ hkD)
      simp [Array.getElem?_setIfInBounds_ne hne])
    rcases h1.2 with ⟨h2, _⟩ | ⟨g, cap, cur, h2, _, hg, _⟩
    · rw [h2] at hb; simp [Value.ownBlock] at hb
    · rw [h2] at hb
      simp only [Value.ownBlock, Option.some.injEq] at hb
      subst hb
      have hlt : g < w.heap.size := by
        have := (Array.getElem?_eq_some_iff.1 hg).1
        simpa using this
      simp [hlt] at hg
/-- a slice of integers does not lie in a block of slices -/
theorem rd_ne_row {b T : Nat} {A A1 A2 : Option Addr} {len n n1 c1 n2 c2 : Nat} {get : Nat → List Value} (hB : Blk w b T #[.slice A1 n1 c1, .slice A2 n2 c2]) (s : SlAt w A len n get) (h0 : ∃ k i, (get 0)[0]? = some (.int k i)) : InR (fun k => k ≠ b ∧ True) A len := fun b' off hl hA => ⟨fun e => by
  subst e
  obtain ⟨b2, off2, hA2, _, hc⟩ := s hl
  rw [hA] at hA2
  injection hA2 with e1
  injection e1 with e2 e3
  subst e2 e3
  obtain ⟨k, i, hg⟩ := h0
  have := hc 0 hl 0 _ hg
  rw [hB.cell] at this
  simp only [Nat.zero_mul, Nat.add_zero] at this
  match off, this with
  | 0, h => simp at h
  | 1, h => simp at h
  | n + 2, h => simp at h, trivial⟩
theorem out_scope_normal {Q : Exit → Act → World → Prop} {a : Act} {w : World} (h : Q .normal a w) : Exit.noGoto Q .normal a w := h
theorem out_scope_ret {Q : Exit → Act → World → Prop} {a : Act} {w : World} (h : Q .ret a w) : Exit.noGoto Q .ret a w := h
theorem out_scope_exit {Q : Exit → Act → World → Prop} {a : Act} {w : World} {i : Nat} (h : Q (.exit i) a w) : Exit.noGoto Q (.exit i) a w := h
end Go.Proofs.Ytlcccomdijdkaaa
