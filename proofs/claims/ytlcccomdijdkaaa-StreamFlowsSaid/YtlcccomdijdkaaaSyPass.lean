/- Models and walks, printed by program. -/
import Derived.Test.YtlcccomdijdkaaaSyS
import Derived.Test.YtlcccomdijdkaaaSyCut
namespace Go.Proofs.Ytlcccomdijdkaaa
open Go.RowKit Go.Proofs.Try
abbrev wCells (x : MWater) : List Value := [.int .i64 x.flow.lo, .int .i64 x.flow.hi, .int .i64 x.warm.lo, .int .i64 x.warm.hi]
abbrev wGQ (xs : List MWater) : GQ := ⟨25, 4, xs.length, xs.flatMap wCells⟩
/-- behind a point: the stream, and what was known on the way -/
def Passed (b : Nat) (V : Value) (c : MWater) (pre : List MWater) (W w' : World) : Prop :=
  ∃ V', Blk w' b 91 #[.int .i64 c.flow.lo, .int .i64 c.flow.hi, .int .i64 c.warm.lo, .int .i64 c.warm.hi, V'] ∧ GrAt w' 0 (wGQ pre) V' ∧ V'.ownBlock ≠ some b ∧ (∀ k, V'.ownBlock = some k → V.ownBlock = some k ∨ W.heap.size ≤ k) ∧ Kept (fun k => k = b ∨ V.ownBlock = some k) W w'
theorem pass_end {W : World} {b n : Nat} {cs : List SV} {V : Value} {E : Env} {a : Act} {w : World} {st : SState} {c : MWater} {pre : List MWater}
    (S : St ⟨W, fun b0 => inCB [⟨1000, b, 91, cs⟩] b0 ∨ V.ownBlock = some b0, n, [], allR, rhoOf [⟨1000, b, 91, cs⟩], (envOf []).sl, (envOf []).x⟩ st E a w)
    (hb : look st.m.blks 1000 = some (.blk 91 [.v (.int .i64 c.flow.lo), .v (.int .i64 c.flow.hi), .v (.int .i64 c.warm.lo), .v (.int .i64 c.warm.hi), .gr 0])) (hg : look st.m.grs 0 = some (wGQ pre)) (_ : True = True) (_ : True = True) (_ : True = True) : Passed b V c pre W w := by
  have hB := S.mem.blk 1000 _ _ hb
  have hρ : E.ρ 1000 = b := (S.pin.1 1000 (Nat.le_refl _)).trans rfl
  rw [hρ] at hB
  refine ⟨E.gr 0, hB, S.mem.gr 0 _ hg, fun h => ?_, fun k hk => ?_, S.kept.mono fun k _ h => ?_⟩
  · exact S.sep.mix 1000 0 _ _ _ hb hg (h.trans (by rw [hρ]))
  · rcases S.sep.ginj.2 0 _ k hg hk with h | h | h
    · exact .inr h
    · obtain ⟨x, hx, e⟩ := h
      rw [List.mem_singleton.1 hx] at e
      simp only at e
      subst e
      exact absurd (hk.trans (by rw [hρ])) (S.sep.mix 1000 0 _ _ _ hb hg)
    · exact .inl h
  · rcases h with ⟨x, hx, rfl⟩ | h
    · rw [List.mem_singleton.1 hx]; exact .inl rfl
    · exact .inr h
def pass0 (c : MWater) (pre : List MWater) (p : MPoint) : Option (MWater × List MWater × Int) :=
(stream_join_valid (MJoin.mk (MSpan.mk p.flow.lo p.flow.hi) (MSpan.mk p.warm.lo p.warm.hi))).bind fun (r1 : Bool) =>
(bif (!r1) then
(some ((MWater.mk (MSpan.mk c.flow.lo c.flow.hi) (MSpan.mk c.warm.lo c.warm.hi)), pre, 1))
else
((stream_join_behind (MJoin.mk (MSpan.mk p.flow.lo p.flow.hi) (MSpan.mk p.warm.lo p.warm.hi)) (MWater.mk (MSpan.mk c.flow.lo c.flow.hi) (MSpan.mk c.warm.lo c.warm.hi))).bind fun (r2 : MWater) =>
(bif decide (r2.flow.lo < 1) then
(some ((MWater.mk (MSpan.mk r2.flow.lo r2.flow.hi) (MSpan.mk r2.warm.lo r2.warm.hi)), pre, 10))
else
((bif (decide (1073741824 < r2.flow.hi) || decide (100000 < r2.warm.hi)) then
(some ((MWater.mk (MSpan.mk r2.flow.lo r2.flow.hi) (MSpan.mk r2.warm.lo r2.warm.hi)), pre, 12))
else
(grd ((pre.length + 1 ≤ 1000000)) <|
some ((MWater.mk (MSpan.mk r2.flow.lo r2.flow.hi) (MSpan.mk r2.warm.lo r2.warm.hi)), (pre ++ [(MWater.mk (MSpan.mk r2.flow.lo r2.flow.hi) (MSpan.mk r2.warm.lo r2.warm.hi))]), 0)))))))
set_option maxRecDepth 100000 in
set_option maxHeartbeats 4000000 in
theorem pass0_ok (c : MWater) (pre : List MWater) (p : MPoint) (W : World) (b : Nat) (V : Value) (hB : Blk W b 91 #[.int .i64 c.flow.lo, .int .i64 c.flow.hi, .int .i64 c.warm.lo, .int .i64 c.warm.hi, V]) (hG : GrAt W 0 (wGQ pre) V) (hV : V.ownBlock ≠ some b) (res : MWater × List MWater × Int) (h : pass0 c pre p = some res) :
    Calls Go.Proofs.Try.prog 54 #[.pointer (some ⟨b, 0, none⟩), .agg #[.int .i64 0, .int .i64 p.flow.lo, .int .i64 p.flow.hi, .int .i64 p.warm.lo, .int .i64 p.warm.hi, .int .i64 p.heat.lo, .int .i64 p.heat.hi, .int .i64 p.share.lo, .int .i64 p.share.hi]] W fun e w' => e = .returned (.int .i64 res.2.2) ∧ Passed b V res.1 res.2.1 W w' := by
  refine sym_closure_g (f := 54) (fn := Go.Proofs.Try.f54) (c := Go.Proofs.Try.f54.body.get rfl) Go.Proofs.Try.func54 rfl [.own 1000 0, .agg [.v (.int .i64 0), .v (.int .i64 p.flow.lo), .v (.int .i64 p.flow.hi), .v (.int .i64 p.warm.lo), .v (.int .i64 p.warm.hi), .v (.int .i64 p.heat.lo), .v (.int .i64 p.heat.hi), .v (.int .i64 p.share.lo), .v (.int .i64 p.share.hi)]] [⟨1000, b, 91, [.v (.int .i64 c.flow.lo), .v (.int .i64 c.flow.hi), .v (.int .i64 c.warm.lo), .v (.int .i64 c.warm.hi), .gr 0]⟩] [(1000, .blk 91 [.v (.int .i64 c.flow.lo), .v (.int .i64 c.flow.hi), .v (.int .i64 c.warm.lo), .v (.int .i64 c.warm.hi), .gr 0])] rfl ⟨25, 4, pre.length, pre.flatMap (fun x => [.int .i64 x.flow.lo, .int .i64 x.flow.hi, .int .i64 x.warm.lo, .int .i64 x.warm.hi])⟩ V (by kernel_rfl) ⟨hB, trivial⟩ ⟨trivial, trivial⟩ hG (fun k hk => ⟨fun (e : k = b) => hV (e ▸ hk), trivial⟩) fun E a w S => ?_
  rw [pass0] at h
  refine sym_seq lay_ok mixed [(0, { g := 0 })] [0, 3] [1000, 0] (⟨[(0, .own 1000 0), (3, .own 0 0)], ⟨[(1000, .blk 91 [.v (.int .i64 c.flow.lo), .v (.int .i64 c.flow.hi), .v (.int .i64 c.warm.lo), .v (.int .i64 c.warm.hi), .gr 0]), (0, .blk 47 [.v (.int .i64 0), .v (.int .i64 p.flow.lo), .v (.int .i64 p.flow.hi), .v (.int .i64 p.warm.lo), .v (.int .i64 p.warm.hi), .v (.int .i64 p.heat.lo), .v (.int .i64 p.heat.hi), .v (.int .i64 p.share.lo), .v (.int .i64 p.share.hi)])], [], [(0, ⟨25, 4, pre.length, pre.flatMap (fun x => [.int .i64 x.flow.lo, .int .i64 x.flow.hi, .int .i64 x.warm.lo, .int .i64 x.warm.hi])⟩)]⟩⟩) [] S (by kernel_rfl) (by kernel_rfl) (by kernel_rfl) trivial ?_
  clear S; intro E a w S
  refine sym_seq lay_ok mixed [(1, { res := .tup [.v (.iface 114 (.agg #[.int .i64 p.flow.lo, .int .i64 p.flow.hi, .int .i64 p.warm.lo, .int .i64 p.warm.hi])), .v (.bool true)] })] [0, 5, 6] [1000] (⟨[(0, .own 1000 0), (5, .v (.iface 114 (.agg #[.int .i64 p.flow.lo, .int .i64 p.flow.hi, .int .i64 p.warm.lo, .int .i64 p.warm.hi]))), (6, .v (.bool true))], ⟨[(1000, .blk 91 [.v (.int .i64 c.flow.lo), .v (.int .i64 c.flow.hi), .v (.int .i64 c.warm.lo), .v (.int .i64 c.warm.hi), .gr 0])], [], [(0, ⟨25, 4, pre.length, pre.flatMap (fun x => [.int .i64 x.flow.lo, .int .i64 x.flow.hi, .int .i64 x.warm.lo, .int .i64 x.warm.hi])⟩)]⟩⟩) [.call ⟨[], [], [(0, ⟨25, 4, pre.length, pre.flatMap (fun x => [.int .i64 x.flow.lo, .int .i64 x.flow.hi, .int .i64 x.warm.lo, .int .i64 x.warm.hi])⟩)]⟩ 65 [.agg [.v (.int .i64 0), .v (.int .i64 p.flow.lo), .v (.int .i64 p.flow.hi), .v (.int .i64 p.warm.lo), .v (.int .i64 p.warm.hi), .v (.int .i64 p.heat.lo), .v (.int .i64 p.heat.hi), .v (.int .i64 p.share.lo), .v (.int .i64 p.share.hi)]] (.tup [.v (.iface 114 (.agg #[.int .i64 p.flow.lo, .int .i64 p.flow.hi, .int .i64 p.warm.lo, .int .i64 p.warm.hi])), .v (.bool true)])] S (by kernel_rfl) (by kernel_rfl) (by kernel_rfl) ⟨⟨enters_65, fun _ W _ _ => pointOf0_ok (MPoint.mk 0 (MSpan.mk p.flow.lo p.flow.hi) (MSpan.mk p.warm.lo p.warm.hi) (MSpan.mk p.heat.lo p.heat.hi) (MSpan.mk p.share.lo p.share.hi)) W⟩, trivial⟩ ?_
  clear S; intro E a w S
  refine wp_seq ?_
  obtain ⟨r1, e1, h⟩ := bind_some h
  refine sym_seq lay_ok mixed [(4, { res := .v (.bool r1), pf := some (86, [.agg [.v (.int .i64 p.flow.lo), .v (.int .i64 p.flow.hi), .v (.int .i64 p.warm.lo), .v (.int .i64 p.warm.hi)]]) })] [0, 5, 18] [1000] (⟨[(0, .own 1000 0), (5, .v (.iface 114 (.agg #[.int .i64 p.flow.lo, .int .i64 p.flow.hi, .int .i64 p.warm.lo, .int .i64 p.warm.hi]))), (18, .v (.bool (!r1)))], ⟨[(1000, .blk 91 [.v (.int .i64 c.flow.lo), .v (.int .i64 c.flow.hi), .v (.int .i64 c.warm.lo), .v (.int .i64 c.warm.hi), .gr 0])], [], [(0, ⟨25, 4, pre.length, pre.flatMap (fun x => [.int .i64 x.flow.lo, .int .i64 x.flow.hi, .int .i64 x.warm.lo, .int .i64 x.warm.hi])⟩)]⟩⟩) [.call ⟨[], [], [(0, ⟨25, 4, pre.length, pre.flatMap (fun x => [.int .i64 x.flow.lo, .int .i64 x.flow.hi, .int .i64 x.warm.lo, .int .i64 x.warm.hi])⟩)]⟩ 86 [.agg [.v (.int .i64 p.flow.lo), .v (.int .i64 p.flow.hi), .v (.int .i64 p.warm.lo), .v (.int .i64 p.warm.hi)]] (.v (.bool r1)), .ent (.call ⟨.invoke (.tmp 15) "wormtub/stream.valid", #[], #[]⟩) [.v (.iface 114 (.agg #[.int .i64 p.flow.lo, .int .i64 p.flow.hi, .int .i64 p.warm.lo, .int .i64 p.warm.hi]))] 86 [.agg [.v (.int .i64 p.flow.lo), .v (.int .i64 p.flow.hi), .v (.int .i64 p.warm.lo), .v (.int .i64 p.warm.hi)]]] S (by kernel_rfl) (by kernel_rfl) (by kernel_rfl) ⟨⟨enters_86, fun _ W _ hm => stream_join_valid_ok (MJoin.mk (MSpan.mk p.flow.lo p.flow.hi) (MSpan.mk p.warm.lo p.warm.hi)) W r1 e1⟩, ent_invoke (fun _ => rfl) (fun _ => by kernel_rfl) enters_86, trivial⟩ ?_
  clear S; intro E a w S
  refine sym_if_last (b := (!r1)) S rfl (fun hb1 => ?_) (fun hb1 => ?_)
  · have h := bif_t hb1 h
    refine sym_seq lay_ok mixed [] [4] [1000] (⟨[(4, .v (.int .i64 1))], ⟨[(1000, .blk 91 [.v (.int .i64 c.flow.lo), .v (.int .i64 c.flow.hi), .v (.int .i64 c.warm.lo), .v (.int .i64 c.warm.hi), .gr 0])], [], [(0, ⟨25, 4, pre.length, pre.flatMap (fun x => [.int .i64 x.flow.lo, .int .i64 x.flow.hi, .int .i64 x.warm.lo, .int .i64 x.warm.hi])⟩)]⟩⟩) [] S (by kernel_rfl) (by kernel_rfl) (by kernel_rfl) trivial ?_
    clear S; intro E a w S
    refine wp_ret ?_
    refine out_then_ret ?_
    have h := Option.some.inj h
    subst h
    exact sym_ret lay_ok [.v (.int .i64 1)] (by kernel_rfl) rfl S ⟨rfl, pass_end S rfl rfl rfl rfl rfl⟩
  · have h := bif_f hb1 h
    refine wp_skip ?_
    refine out_then_normal ?_
    obtain ⟨r2, e2, h⟩ := bind_some h
    refine sym_seq lay_ok mixed [(6, { px := some (.v (.func (.method "wormtub/stream.behind") #[.iface 114 (.agg #[.int .i64 p.flow.lo, .int .i64 p.flow.hi, .int .i64 p.warm.lo, .int .i64 p.warm.hi])] #[])) }), (7, { px := some (.v (.func (.method "wormtub/stream.behind") #[.iface 114 (.agg #[.int .i64 p.flow.lo, .int .i64 p.flow.hi, .int .i64 p.warm.lo, .int .i64 p.warm.hi])] #[])) }), (9, { res := .agg [.v (.int .i64 r2.flow.lo), .v (.int .i64 r2.flow.hi), .v (.int .i64 r2.warm.lo), .v (.int .i64 r2.warm.hi)], pf := some (85, [.agg [.v (.int .i64 p.flow.lo), .v (.int .i64 p.flow.hi), .v (.int .i64 p.warm.lo), .v (.int .i64 p.warm.hi)], .agg [.v (.int .i64 c.flow.lo), .v (.int .i64 c.flow.hi), .v (.int .i64 c.warm.lo), .v (.int .i64 c.warm.hi)]]) })] [0] [1000] (⟨[(0, .own 1000 0)], ⟨[(1000, .blk 91 [.v (.int .i64 r2.flow.lo), .v (.int .i64 r2.flow.hi), .v (.int .i64 r2.warm.lo), .v (.int .i64 r2.warm.hi), .gr 0])], [], [(0, ⟨25, 4, pre.length, pre.flatMap (fun x => [.int .i64 x.flow.lo, .int .i64 x.flow.hi, .int .i64 x.warm.lo, .int .i64 x.warm.hi])⟩)]⟩⟩) [.pure ⟨[], [], [(0, ⟨25, 4, pre.length, pre.flatMap (fun x => [.int .i64 x.flow.lo, .int .i64 x.flow.hi, .int .i64 x.warm.lo, .int .i64 x.warm.hi])⟩)]⟩ (.makeFunc (.method "wormtub/stream.behind") #[.tmp 20] #[]) [.v (.iface 114 (.agg #[.int .i64 p.flow.lo, .int .i64 p.flow.hi, .int .i64 p.warm.lo, .int .i64 p.warm.hi]))] (.v (.func (.method "wormtub/stream.behind") #[.iface 114 (.agg #[.int .i64 p.flow.lo, .int .i64 p.flow.hi, .int .i64 p.warm.lo, .int .i64 p.warm.hi])] #[])), .pure ⟨[], [], [(0, ⟨25, 4, pre.length, pre.flatMap (fun x => [.int .i64 x.flow.lo, .int .i64 x.flow.hi, .int .i64 x.warm.lo, .int .i64 x.warm.hi])⟩)]⟩ (.nilCheck (.tmp 25)) [.v (.func (.method "wormtub/stream.behind") #[.iface 114 (.agg #[.int .i64 p.flow.lo, .int .i64 p.flow.hi, .int .i64 p.warm.lo, .int .i64 p.warm.hi])] #[])] (.v (.func (.method "wormtub/stream.behind") #[.iface 114 (.agg #[.int .i64 p.flow.lo, .int .i64 p.flow.hi, .int .i64 p.warm.lo, .int .i64 p.warm.hi])] #[])), .call ⟨[], [], [(0, ⟨25, 4, pre.length, pre.flatMap (fun x => [.int .i64 x.flow.lo, .int .i64 x.flow.hi, .int .i64 x.warm.lo, .int .i64 x.warm.hi])⟩)]⟩ 85 [.agg [.v (.int .i64 p.flow.lo), .v (.int .i64 p.flow.hi), .v (.int .i64 p.warm.lo), .v (.int .i64 p.warm.hi)], .agg [.v (.int .i64 c.flow.lo), .v (.int .i64 c.flow.hi), .v (.int .i64 c.warm.lo), .v (.int .i64 c.warm.hi)]] (.agg [.v (.int .i64 r2.flow.lo), .v (.int .i64 r2.flow.hi), .v (.int .i64 r2.warm.lo), .v (.int .i64 r2.warm.hi)]), .ent (.call ⟨.invoke (.tmp 27) "wormtub/stream.behind", #[.tmp 24], #[25]⟩) [.v (.iface 114 (.agg #[.int .i64 p.flow.lo, .int .i64 p.flow.hi, .int .i64 p.warm.lo, .int .i64 p.warm.hi])), .agg [.v (.int .i64 c.flow.lo), .v (.int .i64 c.flow.hi), .v (.int .i64 c.warm.lo), .v (.int .i64 c.warm.hi)]] 85 [.agg [.v (.int .i64 p.flow.lo), .v (.int .i64 p.flow.hi), .v (.int .i64 p.warm.lo), .v (.int .i64 p.warm.hi)], .agg [.v (.int .i64 c.flow.lo), .v (.int .i64 c.flow.hi), .v (.int .i64 c.warm.lo), .v (.int .i64 c.warm.hi)]]] S (by kernel_rfl) (by kernel_rfl) (by kernel_rfl) ⟨pure_method, pure_nilMethod (fun _ => by kernel_rfl), ⟨enters_85, fun _ W _ hm => stream_join_behind_ok (MJoin.mk (MSpan.mk p.flow.lo p.flow.hi) (MSpan.mk p.warm.lo p.warm.hi)) (MWater.mk (MSpan.mk c.flow.lo c.flow.hi) (MSpan.mk c.warm.lo c.warm.hi)) W r2 e2⟩, ent_invoke (fun _ => rfl) (fun _ => by kernel_rfl) enters_85, trivial⟩ ?_
    clear S; intro E a w S
    refine wp_seq ?_
    refine sym_seq lay_ok mixed [] [0, 37] [1000] (⟨[(0, .own 1000 0), (37, .v (.bool (decide (r2.flow.lo < 1))))], ⟨[(1000, .blk 91 [.v (.int .i64 r2.flow.lo), .v (.int .i64 r2.flow.hi), .v (.int .i64 r2.warm.lo), .v (.int .i64 r2.warm.hi), .gr 0])], [], [(0, ⟨25, 4, pre.length, pre.flatMap (fun x => [.int .i64 x.flow.lo, .int .i64 x.flow.hi, .int .i64 x.warm.lo, .int .i64 x.warm.hi])⟩)]⟩⟩) [] S (by kernel_rfl) (by kernel_rfl) (by kernel_rfl) trivial ?_
    clear S; intro E a w S
    refine sym_if_last (b := decide (r2.flow.lo < 1)) S rfl (fun hb2 => ?_) (fun hb2 => ?_)
    · have h := bif_t hb2 h
      refine sym_seq lay_ok mixed [] [4] [1000] (⟨[(4, .v (.int .i64 10))], ⟨[(1000, .blk 91 [.v (.int .i64 r2.flow.lo), .v (.int .i64 r2.flow.hi), .v (.int .i64 r2.warm.lo), .v (.int .i64 r2.warm.hi), .gr 0])], [], [(0, ⟨25, 4, pre.length, pre.flatMap (fun x => [.int .i64 x.flow.lo, .int .i64 x.flow.hi, .int .i64 x.warm.lo, .int .i64 x.warm.hi])⟩)]⟩⟩) [] S (by kernel_rfl) (by kernel_rfl) (by kernel_rfl) trivial ?_
      clear S; intro E a w S
      refine wp_ret ?_
      refine out_then_ret ?_
      have h := Option.some.inj h
      subst h
      exact sym_ret lay_ok [.v (.int .i64 10)] (by kernel_rfl) rfl S ⟨rfl, pass_end S rfl rfl rfl rfl rfl⟩
    · have h := bif_f hb2 h
      refine wp_skip ?_
      refine out_then_normal ?_
      refine wp_seq ?_
      refine sym_seq lay_ok mixed [(8, { og := true }), (9, { og := true }), (10, { og := true }), (11, { og := true }), (12, { og := true }), (13, { og := true }), (14, { og := true }), (15, { pk := true })] [0, 53] [1000] (⟨[(0, .own 1000 0), (53, .v (.bool (decide (1073741824 < r2.flow.hi) || decide (100000 < r2.warm.hi))))], ⟨[(1000, .blk 91 [.v (.int .i64 r2.flow.lo), .v (.int .i64 r2.flow.hi), .v (.int .i64 r2.warm.lo), .v (.int .i64 r2.warm.hi), .gr 0])], [], [(0, ⟨25, 4, pre.length, pre.flatMap (fun x => [.int .i64 x.flow.lo, .int .i64 x.flow.hi, .int .i64 x.warm.lo, .int .i64 x.warm.hi])⟩)]⟩⟩) [.imp (!(decide (1073741824 < r2.flow.hi))) (!(decide (1073741824 < r2.flow.hi))), .imp (!(decide (1073741824 < r2.flow.hi))) (!(decide (1073741824 < r2.flow.hi))), .imp (!(decide (1073741824 < r2.flow.hi))) (!(decide (1073741824 < r2.flow.hi))), .imp (!(decide (1073741824 < r2.flow.hi))) (!(decide (1073741824 < r2.flow.hi))), .imp (!(decide (1073741824 < r2.flow.hi))) (!(decide (1073741824 < r2.flow.hi))), .imp (!(decide (1073741824 < r2.flow.hi))) (!(decide (1073741824 < r2.flow.hi))), .imp (!(decide (1073741824 < r2.flow.hi))) (!(decide (1073741824 < r2.flow.hi)))] S (by kernel_rfl) (by kernel_rfl) (by kernel_rfl) ⟨fun h => h, fun h => h, fun h => h, fun h => h, fun h => h, fun h => h, fun h => h, trivial⟩ ?_
      clear S; intro E a w S
      refine sym_if_last (b := (decide (1073741824 < r2.flow.hi) || decide (100000 < r2.warm.hi))) S rfl (fun hb3 => ?_) (fun hb3 => ?_)
      · have h := bif_t hb3 h
        refine sym_seq lay_ok mixed [] [4] [1000] (⟨[(4, .v (.int .i64 12))], ⟨[(1000, .blk 91 [.v (.int .i64 r2.flow.lo), .v (.int .i64 r2.flow.hi), .v (.int .i64 r2.warm.lo), .v (.int .i64 r2.warm.hi), .gr 0])], [], [(0, ⟨25, 4, pre.length, pre.flatMap (fun x => [.int .i64 x.flow.lo, .int .i64 x.flow.hi, .int .i64 x.warm.lo, .int .i64 x.warm.hi])⟩)]⟩⟩) [] S (by kernel_rfl) (by kernel_rfl) (by kernel_rfl) trivial ?_
        clear S; intro E a w S
        refine wp_ret ?_
        refine out_then_ret ?_
        have h := Option.some.inj h
        subst h
        exact sym_ret lay_ok [.v (.int .i64 12)] (by kernel_rfl) rfl S ⟨rfl, pass_end S rfl rfl rfl rfl rfl⟩
      · have h := bif_f hb3 h
        refine wp_skip ?_
        refine out_then_normal ?_
        obtain ⟨g1, h⟩ := grd_some h
        refine wp_seq ?_
        refine sym_region_cutP lay_ok mixed [(9, { g := 1 })] 10 [54, 58, 63] [1000, 1] (⟨[(54, .own 1000 0), (58, .gr 0), (63, .row 1 0 1 1)], ⟨[(1000, .blk 91 [.v (.int .i64 r2.flow.lo), .v (.int .i64 r2.flow.hi), .v (.int .i64 r2.warm.lo), .v (.int .i64 r2.warm.hi), .gr 0]), (1, .blk 25 [.v (.int .i64 r2.flow.lo), .v (.int .i64 r2.flow.hi), .v (.int .i64 r2.warm.lo), .v (.int .i64 r2.warm.hi)])], [], [(0, ⟨25, 4, pre.length, pre.flatMap (fun x => [.int .i64 x.flow.lo, .int .i64 x.flow.hi, .int .i64 x.warm.lo, .int .i64 x.warm.hi])⟩)]⟩⟩) [] S (by kernel_rfl) (by kernel_rfl) (by kernel_rfl) trivial (by intro c d v a w h; cases d <;> exact h) ?_
        clear S; intro E a w S
        refine sym_append lay_ok rfl (.tmp 58) (.tmp 63) 29 rfl rfl S 0 1 0 1 1 25 [.v (.int .i64 r2.flow.lo), .v (.int .i64 r2.flow.hi), .v (.int .i64 r2.warm.lo), .v (.int .i64 r2.warm.hi)] ⟨25, 4, pre.length, pre.flatMap (fun x => [.int .i64 x.flow.lo, .int .i64 x.flow.hi, .int .i64 x.warm.lo, .int .i64 x.warm.hi])⟩ ⟨.str [(0, 2, true), (2, 2, true)], 4, [.int .i64 0, .int .i64 0, .int .i64 0, .int .i64 0], true, 32⟩ ⟨.sli 25 4, 1, [.slice none 0 0], false, 24⟩ rfl rfl rfl rfl rfl rfl rfl rfl (show 0 < 4 by decide) rfl rfl (fun e he => by cases he; exact Nat.lt_of_succ_le (Nat.le_of_ble_eq_true rfl)) ⟨25, 4, (pre ++ [(MWater.mk (MSpan.mk r2.flow.lo r2.flow.hi) (MSpan.mk r2.warm.lo r2.warm.hi))]).length, (pre ++ [(MWater.mk (MSpan.mk r2.flow.lo r2.flow.hi) (MSpan.mk r2.warm.lo r2.warm.hi))]).flatMap (fun x => [.int .i64 x.flow.lo, .int .i64 x.flow.hi, .int .i64 x.warm.lo, .int .i64 x.warm.hi])⟩ rfl rfl (by simp) (fun E => by simp [SV.vals, SV.val]) (Nat.le_trans g1 (by decide)) (show (pre.length + 1) * 32 ≤ 140737488355328 by have := g1; omega) rfl ?_
        clear S; intro v0 E a w S; have S := St.pickG S [54, 63, 64] [1000, 1] [0] (⟨[(54, .own 1000 0), (63, .row 1 0 1 1), (64, .gr 0)], ⟨[(1000, .blk 91 [.v (.int .i64 r2.flow.lo), .v (.int .i64 r2.flow.hi), .v (.int .i64 r2.warm.lo), .v (.int .i64 r2.warm.hi), .v (v0)]), (1, .blk 25 [.v (.int .i64 r2.flow.lo), .v (.int .i64 r2.flow.hi), .v (.int .i64 r2.warm.lo), .v (.int .i64 r2.warm.hi)])], [], [(0, ⟨25, 4, (pre ++ [(MWater.mk (MSpan.mk r2.flow.lo r2.flow.hi) (MSpan.mk r2.warm.lo r2.warm.hi))]).length, (pre ++ [(MWater.mk (MSpan.mk r2.flow.lo r2.flow.hi) (MSpan.mk r2.warm.lo r2.warm.hi))]).flatMap (fun x => [.int .i64 x.flow.lo, .int .i64 x.flow.hi, .int .i64 x.warm.lo, .int .i64 x.warm.hi])⟩)]⟩⟩) (by kernel_rfl)
        refine sym_runP lay_ok [] 11 3 [] [1000] (⟨[], ⟨[(1000, .blk 91 [.v (.int .i64 r2.flow.lo), .v (.int .i64 r2.flow.hi), .v (.int .i64 r2.warm.lo), .v (.int .i64 r2.warm.hi), .gr 0])], [], [(0, ⟨25, 4, (pre ++ [(MWater.mk (MSpan.mk r2.flow.lo r2.flow.hi) (MSpan.mk r2.warm.lo r2.warm.hi))]).length, (pre ++ [(MWater.mk (MSpan.mk r2.flow.lo r2.flow.hi) (MSpan.mk r2.warm.lo r2.warm.hi))]).flatMap (fun x => [.int .i64 x.flow.lo, .int .i64 x.flow.hi, .int .i64 x.warm.lo, .int .i64 x.warm.hi])⟩)]⟩⟩) [] S (by kernel_rfl) (by kernel_rfl) trivial ?_
        clear S; intro E a w S
        refine sym_done rfl ?_
        refine out_then_normal ?_
        have S := St.pickG S [] [1000] [0] (⟨[], ⟨[(1000, .blk 91 [.v (.int .i64 r2.flow.lo), .v (.int .i64 r2.flow.hi), .v (.int .i64 r2.warm.lo), .v (.int .i64 r2.warm.hi), .gr 0])], [], [(0, ⟨25, 4, (pre ++ [(MWater.mk (MSpan.mk r2.flow.lo r2.flow.hi) (MSpan.mk r2.warm.lo r2.warm.hi))]).length, (pre ++ [(MWater.mk (MSpan.mk r2.flow.lo r2.flow.hi) (MSpan.mk r2.warm.lo r2.warm.hi))]).flatMap (fun x => [.int .i64 x.flow.lo, .int .i64 x.flow.hi, .int .i64 x.warm.lo, .int .i64 x.warm.hi])⟩)]⟩⟩) (by kernel_rfl)
        refine sym_seq lay_ok mixed [] [4] [1000] (⟨[(4, .v (.int .i64 0))], ⟨[(1000, .blk 91 [.v (.int .i64 r2.flow.lo), .v (.int .i64 r2.flow.hi), .v (.int .i64 r2.warm.lo), .v (.int .i64 r2.warm.hi), .gr 0])], [], [(0, ⟨25, 4, (pre ++ [(MWater.mk (MSpan.mk r2.flow.lo r2.flow.hi) (MSpan.mk r2.warm.lo r2.warm.hi))]).length, (pre ++ [(MWater.mk (MSpan.mk r2.flow.lo r2.flow.hi) (MSpan.mk r2.warm.lo r2.warm.hi))]).flatMap (fun x => [.int .i64 x.flow.lo, .int .i64 x.flow.hi, .int .i64 x.warm.lo, .int .i64 x.warm.hi])⟩)]⟩⟩) [] S (by kernel_rfl) (by kernel_rfl) (by kernel_rfl) trivial ?_
        clear S; intro E a w S
        refine wp_ret ?_
        have h := Option.some.inj h
        subst h
        exact sym_ret lay_ok [.v (.int .i64 0)] (by kernel_rfl) rfl S ⟨rfl, pass_end S rfl rfl rfl rfl rfl⟩
def pass1 (c : MWater) (pre : List MWater) (p : MPoint) : Option (MWater × List MWater × Int) :=
(stream_draw_valid (MDraw.mk (MSpan.mk p.flow.lo p.flow.hi))).bind fun (r1 : Bool) =>
(bif (!r1) then
(some ((MWater.mk (MSpan.mk c.flow.lo c.flow.hi) (MSpan.mk c.warm.lo c.warm.hi)), pre, 1))
else
((stream_draw_behind (MDraw.mk (MSpan.mk p.flow.lo p.flow.hi)) (MWater.mk (MSpan.mk c.flow.lo c.flow.hi) (MSpan.mk c.warm.lo c.warm.hi))).bind fun (r2 : MWater) =>
(bif decide (r2.flow.lo < 1) then
(some ((MWater.mk (MSpan.mk r2.flow.lo r2.flow.hi) (MSpan.mk r2.warm.lo r2.warm.hi)), pre, 10))
else
((bif (decide (1073741824 < r2.flow.hi) || decide (100000 < r2.warm.hi)) then
(some ((MWater.mk (MSpan.mk r2.flow.lo r2.flow.hi) (MSpan.mk r2.warm.lo r2.warm.hi)), pre, 12))
else
(grd ((pre.length + 1 ≤ 1000000)) <|
some ((MWater.mk (MSpan.mk r2.flow.lo r2.flow.hi) (MSpan.mk r2.warm.lo r2.warm.hi)), (pre ++ [(MWater.mk (MSpan.mk r2.flow.lo r2.flow.hi) (MSpan.mk r2.warm.lo r2.warm.hi))]), 0)))))))
set_option maxRecDepth 100000 in
set_option maxHeartbeats 4000000 in
theorem pass1_ok (c : MWater) (pre : List MWater) (p : MPoint) (W : World) (b : Nat) (V : Value) (hB : Blk W b 91 #[.int .i64 c.flow.lo, .int .i64 c.flow.hi, .int .i64 c.warm.lo, .int .i64 c.warm.hi, V]) (hG : GrAt W 0 (wGQ pre) V) (hV : V.ownBlock ≠ some b) (res : MWater × List MWater × Int) (h : pass1 c pre p = some res) :
    Calls Go.Proofs.Try.prog 54 #[.pointer (some ⟨b, 0, none⟩), .agg #[.int .i64 1, .int .i64 p.flow.lo, .int .i64 p.flow.hi, .int .i64 p.warm.lo, .int .i64 p.warm.hi, .int .i64 p.heat.lo, .int .i64 p.heat.hi, .int .i64 p.share.lo, .int .i64 p.share.hi]] W fun e w' => e = .returned (.int .i64 res.2.2) ∧ Passed b V res.1 res.2.1 W w' := by
  refine sym_closure_g (f := 54) (fn := Go.Proofs.Try.f54) (c := Go.Proofs.Try.f54.body.get rfl) Go.Proofs.Try.func54 rfl [.own 1000 0, .agg [.v (.int .i64 1), .v (.int .i64 p.flow.lo), .v (.int .i64 p.flow.hi), .v (.int .i64 p.warm.lo), .v (.int .i64 p.warm.hi), .v (.int .i64 p.heat.lo), .v (.int .i64 p.heat.hi), .v (.int .i64 p.share.lo), .v (.int .i64 p.share.hi)]] [⟨1000, b, 91, [.v (.int .i64 c.flow.lo), .v (.int .i64 c.flow.hi), .v (.int .i64 c.warm.lo), .v (.int .i64 c.warm.hi), .gr 0]⟩] [(1000, .blk 91 [.v (.int .i64 c.flow.lo), .v (.int .i64 c.flow.hi), .v (.int .i64 c.warm.lo), .v (.int .i64 c.warm.hi), .gr 0])] rfl ⟨25, 4, pre.length, pre.flatMap (fun x => [.int .i64 x.flow.lo, .int .i64 x.flow.hi, .int .i64 x.warm.lo, .int .i64 x.warm.hi])⟩ V (by kernel_rfl) ⟨hB, trivial⟩ ⟨trivial, trivial⟩ hG (fun k hk => ⟨fun (e : k = b) => hV (e ▸ hk), trivial⟩) fun E a w S => ?_
  rw [pass1] at h
  refine sym_seq lay_ok mixed [(0, { g := 0 })] [0, 3] [1000, 0] (⟨[(0, .own 1000 0), (3, .own 0 0)], ⟨[(1000, .blk 91 [.v (.int .i64 c.flow.lo), .v (.int .i64 c.flow.hi), .v (.int .i64 c.warm.lo), .v (.int .i64 c.warm.hi), .gr 0]), (0, .blk 47 [.v (.int .i64 1), .v (.int .i64 p.flow.lo), .v (.int .i64 p.flow.hi), .v (.int .i64 p.warm.lo), .v (.int .i64 p.warm.hi), .v (.int .i64 p.heat.lo), .v (.int .i64 p.heat.hi), .v (.int .i64 p.share.lo), .v (.int .i64 p.share.hi)])], [], [(0, ⟨25, 4, pre.length, pre.flatMap (fun x => [.int .i64 x.flow.lo, .int .i64 x.flow.hi, .int .i64 x.warm.lo, .int .i64 x.warm.hi])⟩)]⟩⟩) [] S (by kernel_rfl) (by kernel_rfl) (by kernel_rfl) trivial ?_
  clear S; intro E a w S
  refine sym_seq lay_ok mixed [(1, { res := .tup [.v (.iface 116 (.agg #[.int .i64 p.flow.lo, .int .i64 p.flow.hi])), .v (.bool true)] })] [0, 5, 6] [1000] (⟨[(0, .own 1000 0), (5, .v (.iface 116 (.agg #[.int .i64 p.flow.lo, .int .i64 p.flow.hi]))), (6, .v (.bool true))], ⟨[(1000, .blk 91 [.v (.int .i64 c.flow.lo), .v (.int .i64 c.flow.hi), .v (.int .i64 c.warm.lo), .v (.int .i64 c.warm.hi), .gr 0])], [], [(0, ⟨25, 4, pre.length, pre.flatMap (fun x => [.int .i64 x.flow.lo, .int .i64 x.flow.hi, .int .i64 x.warm.lo, .int .i64 x.warm.hi])⟩)]⟩⟩) [.call ⟨[], [], [(0, ⟨25, 4, pre.length, pre.flatMap (fun x => [.int .i64 x.flow.lo, .int .i64 x.flow.hi, .int .i64 x.warm.lo, .int .i64 x.warm.hi])⟩)]⟩ 65 [.agg [.v (.int .i64 1), .v (.int .i64 p.flow.lo), .v (.int .i64 p.flow.hi), .v (.int .i64 p.warm.lo), .v (.int .i64 p.warm.hi), .v (.int .i64 p.heat.lo), .v (.int .i64 p.heat.hi), .v (.int .i64 p.share.lo), .v (.int .i64 p.share.hi)]] (.tup [.v (.iface 116 (.agg #[.int .i64 p.flow.lo, .int .i64 p.flow.hi])), .v (.bool true)])] S (by kernel_rfl) (by kernel_rfl) (by kernel_rfl) ⟨⟨enters_65, fun _ W _ _ => pointOf1_ok (MPoint.mk 1 (MSpan.mk p.flow.lo p.flow.hi) (MSpan.mk p.warm.lo p.warm.hi) (MSpan.mk p.heat.lo p.heat.hi) (MSpan.mk p.share.lo p.share.hi)) W⟩, trivial⟩ ?_
  clear S; intro E a w S
  refine wp_seq ?_
  obtain ⟨r1, e1, h⟩ := bind_some h
  refine sym_seq lay_ok mixed [(4, { res := .v (.bool r1), pf := some (92, [.agg [.v (.int .i64 p.flow.lo), .v (.int .i64 p.flow.hi)]]) })] [0, 5, 18] [1000] (⟨[(0, .own 1000 0), (5, .v (.iface 116 (.agg #[.int .i64 p.flow.lo, .int .i64 p.flow.hi]))), (18, .v (.bool (!r1)))], ⟨[(1000, .blk 91 [.v (.int .i64 c.flow.lo), .v (.int .i64 c.flow.hi), .v (.int .i64 c.warm.lo), .v (.int .i64 c.warm.hi), .gr 0])], [], [(0, ⟨25, 4, pre.length, pre.flatMap (fun x => [.int .i64 x.flow.lo, .int .i64 x.flow.hi, .int .i64 x.warm.lo, .int .i64 x.warm.hi])⟩)]⟩⟩) [.call ⟨[], [], [(0, ⟨25, 4, pre.length, pre.flatMap (fun x => [.int .i64 x.flow.lo, .int .i64 x.flow.hi, .int .i64 x.warm.lo, .int .i64 x.warm.hi])⟩)]⟩ 92 [.agg [.v (.int .i64 p.flow.lo), .v (.int .i64 p.flow.hi)]] (.v (.bool r1)), .ent (.call ⟨.invoke (.tmp 15) "wormtub/stream.valid", #[], #[]⟩) [.v (.iface 116 (.agg #[.int .i64 p.flow.lo, .int .i64 p.flow.hi]))] 92 [.agg [.v (.int .i64 p.flow.lo), .v (.int .i64 p.flow.hi)]]] S (by kernel_rfl) (by kernel_rfl) (by kernel_rfl) ⟨⟨enters_92, fun _ W _ hm => stream_draw_valid_ok (MDraw.mk (MSpan.mk p.flow.lo p.flow.hi)) W r1 e1⟩, ent_invoke (fun _ => rfl) (fun _ => by kernel_rfl) enters_92, trivial⟩ ?_
  clear S; intro E a w S
  refine sym_if_last (b := (!r1)) S rfl (fun hb1 => ?_) (fun hb1 => ?_)
  · have h := bif_t hb1 h
    refine sym_seq lay_ok mixed [] [4] [1000] (⟨[(4, .v (.int .i64 1))], ⟨[(1000, .blk 91 [.v (.int .i64 c.flow.lo), .v (.int .i64 c.flow.hi), .v (.int .i64 c.warm.lo), .v (.int .i64 c.warm.hi), .gr 0])], [], [(0, ⟨25, 4, pre.length, pre.flatMap (fun x => [.int .i64 x.flow.lo, .int .i64 x.flow.hi, .int .i64 x.warm.lo, .int .i64 x.warm.hi])⟩)]⟩⟩) [] S (by kernel_rfl) (by kernel_rfl) (by kernel_rfl) trivial ?_
    clear S; intro E a w S
    refine wp_ret ?_
    refine out_then_ret ?_
    have h := Option.some.inj h
    subst h
    exact sym_ret lay_ok [.v (.int .i64 1)] (by kernel_rfl) rfl S ⟨rfl, pass_end S rfl rfl rfl rfl rfl⟩
  · have h := bif_f hb1 h
    refine wp_skip ?_
    refine out_then_normal ?_
    obtain ⟨r2, e2, h⟩ := bind_some h
    refine sym_seq lay_ok mixed [(6, { px := some (.v (.func (.method "wormtub/stream.behind") #[.iface 116 (.agg #[.int .i64 p.flow.lo, .int .i64 p.flow.hi])] #[])) }), (7, { px := some (.v (.func (.method "wormtub/stream.behind") #[.iface 116 (.agg #[.int .i64 p.flow.lo, .int .i64 p.flow.hi])] #[])) }), (9, { res := .agg [.v (.int .i64 r2.flow.lo), .v (.int .i64 r2.flow.hi), .v (.int .i64 r2.warm.lo), .v (.int .i64 r2.warm.hi)], pf := some (91, [.agg [.v (.int .i64 p.flow.lo), .v (.int .i64 p.flow.hi)], .agg [.v (.int .i64 c.flow.lo), .v (.int .i64 c.flow.hi), .v (.int .i64 c.warm.lo), .v (.int .i64 c.warm.hi)]]) })] [0] [1000] (⟨[(0, .own 1000 0)], ⟨[(1000, .blk 91 [.v (.int .i64 r2.flow.lo), .v (.int .i64 r2.flow.hi), .v (.int .i64 r2.warm.lo), .v (.int .i64 r2.warm.hi), .gr 0])], [], [(0, ⟨25, 4, pre.length, pre.flatMap (fun x => [.int .i64 x.flow.lo, .int .i64 x.flow.hi, .int .i64 x.warm.lo, .int .i64 x.warm.hi])⟩)]⟩⟩) [.pure ⟨[], [], [(0, ⟨25, 4, pre.length, pre.flatMap (fun x => [.int .i64 x.flow.lo, .int .i64 x.flow.hi, .int .i64 x.warm.lo, .int .i64 x.warm.hi])⟩)]⟩ (.makeFunc (.method "wormtub/stream.behind") #[.tmp 20] #[]) [.v (.iface 116 (.agg #[.int .i64 p.flow.lo, .int .i64 p.flow.hi]))] (.v (.func (.method "wormtub/stream.behind") #[.iface 116 (.agg #[.int .i64 p.flow.lo, .int .i64 p.flow.hi])] #[])), .pure ⟨[], [], [(0, ⟨25, 4, pre.length, pre.flatMap (fun x => [.int .i64 x.flow.lo, .int .i64 x.flow.hi, .int .i64 x.warm.lo, .int .i64 x.warm.hi])⟩)]⟩ (.nilCheck (.tmp 25)) [.v (.func (.method "wormtub/stream.behind") #[.iface 116 (.agg #[.int .i64 p.flow.lo, .int .i64 p.flow.hi])] #[])] (.v (.func (.method "wormtub/stream.behind") #[.iface 116 (.agg #[.int .i64 p.flow.lo, .int .i64 p.flow.hi])] #[])), .call ⟨[], [], [(0, ⟨25, 4, pre.length, pre.flatMap (fun x => [.int .i64 x.flow.lo, .int .i64 x.flow.hi, .int .i64 x.warm.lo, .int .i64 x.warm.hi])⟩)]⟩ 91 [.agg [.v (.int .i64 p.flow.lo), .v (.int .i64 p.flow.hi)], .agg [.v (.int .i64 c.flow.lo), .v (.int .i64 c.flow.hi), .v (.int .i64 c.warm.lo), .v (.int .i64 c.warm.hi)]] (.agg [.v (.int .i64 r2.flow.lo), .v (.int .i64 r2.flow.hi), .v (.int .i64 r2.warm.lo), .v (.int .i64 r2.warm.hi)]), .ent (.call ⟨.invoke (.tmp 27) "wormtub/stream.behind", #[.tmp 24], #[25]⟩) [.v (.iface 116 (.agg #[.int .i64 p.flow.lo, .int .i64 p.flow.hi])), .agg [.v (.int .i64 c.flow.lo), .v (.int .i64 c.flow.hi), .v (.int .i64 c.warm.lo), .v (.int .i64 c.warm.hi)]] 91 [.agg [.v (.int .i64 p.flow.lo), .v (.int .i64 p.flow.hi)], .agg [.v (.int .i64 c.flow.lo), .v (.int .i64 c.flow.hi), .v (.int .i64 c.warm.lo), .v (.int .i64 c.warm.hi)]]] S (by kernel_rfl) (by kernel_rfl) (by kernel_rfl) ⟨pure_method, pure_nilMethod (fun _ => by kernel_rfl), ⟨enters_91, fun _ W _ hm => stream_draw_behind_ok (MDraw.mk (MSpan.mk p.flow.lo p.flow.hi)) (MWater.mk (MSpan.mk c.flow.lo c.flow.hi) (MSpan.mk c.warm.lo c.warm.hi)) W r2 e2⟩, ent_invoke (fun _ => rfl) (fun _ => by kernel_rfl) enters_91, trivial⟩ ?_
    clear S; intro E a w S
    refine wp_seq ?_
    refine sym_seq lay_ok mixed [] [0, 37] [1000] (⟨[(0, .own 1000 0), (37, .v (.bool (decide (r2.flow.lo < 1))))], ⟨[(1000, .blk 91 [.v (.int .i64 r2.flow.lo), .v (.int .i64 r2.flow.hi), .v (.int .i64 r2.warm.lo), .v (.int .i64 r2.warm.hi), .gr 0])], [], [(0, ⟨25, 4, pre.length, pre.flatMap (fun x => [.int .i64 x.flow.lo, .int .i64 x.flow.hi, .int .i64 x.warm.lo, .int .i64 x.warm.hi])⟩)]⟩⟩) [] S (by kernel_rfl) (by kernel_rfl) (by kernel_rfl) trivial ?_
    clear S; intro E a w S
    refine sym_if_last (b := decide (r2.flow.lo < 1)) S rfl (fun hb2 => ?_) (fun hb2 => ?_)
    · have h := bif_t hb2 h
      refine sym_seq lay_ok mixed [] [4] [1000] (⟨[(4, .v (.int .i64 10))], ⟨[(1000, .blk 91 [.v (.int .i64 r2.flow.lo), .v (.int .i64 r2.flow.hi), .v (.int .i64 r2.warm.lo), .v (.int .i64 r2.warm.hi), .gr 0])], [], [(0, ⟨25, 4, pre.length, pre.flatMap (fun x => [.int .i64 x.flow.lo, .int .i64 x.flow.hi, .int .i64 x.warm.lo, .int .i64 x.warm.hi])⟩)]⟩⟩) [] S (by kernel_rfl) (by kernel_rfl) (by kernel_rfl) trivial ?_
      clear S; intro E a w S
      refine wp_ret ?_
      refine out_then_ret ?_
      have h := Option.some.inj h
      subst h
      exact sym_ret lay_ok [.v (.int .i64 10)] (by kernel_rfl) rfl S ⟨rfl, pass_end S rfl rfl rfl rfl rfl⟩
    · have h := bif_f hb2 h
      refine wp_skip ?_
      refine out_then_normal ?_
      refine wp_seq ?_
      refine sym_seq lay_ok mixed [(8, { og := true }), (9, { og := true }), (10, { og := true }), (11, { og := true }), (12, { og := true }), (13, { og := true }), (14, { og := true }), (15, { pk := true })] [0, 53] [1000] (⟨[(0, .own 1000 0), (53, .v (.bool (decide (1073741824 < r2.flow.hi) || decide (100000 < r2.warm.hi))))], ⟨[(1000, .blk 91 [.v (.int .i64 r2.flow.lo), .v (.int .i64 r2.flow.hi), .v (.int .i64 r2.warm.lo), .v (.int .i64 r2.warm.hi), .gr 0])], [], [(0, ⟨25, 4, pre.length, pre.flatMap (fun x => [.int .i64 x.flow.lo, .int .i64 x.flow.hi, .int .i64 x.warm.lo, .int .i64 x.warm.hi])⟩)]⟩⟩) [.imp (!(decide (1073741824 < r2.flow.hi))) (!(decide (1073741824 < r2.flow.hi))), .imp (!(decide (1073741824 < r2.flow.hi))) (!(decide (1073741824 < r2.flow.hi))), .imp (!(decide (1073741824 < r2.flow.hi))) (!(decide (1073741824 < r2.flow.hi))), .imp (!(decide (1073741824 < r2.flow.hi))) (!(decide (1073741824 < r2.flow.hi))), .imp (!(decide (1073741824 < r2.flow.hi))) (!(decide (1073741824 < r2.flow.hi))), .imp (!(decide (1073741824 < r2.flow.hi))) (!(decide (1073741824 < r2.flow.hi))), .imp (!(decide (1073741824 < r2.flow.hi))) (!(decide (1073741824 < r2.flow.hi)))] S (by kernel_rfl) (by kernel_rfl) (by kernel_rfl) ⟨fun h => h, fun h => h, fun h => h, fun h => h, fun h => h, fun h => h, fun h => h, trivial⟩ ?_
      clear S; intro E a w S
      refine sym_if_last (b := (decide (1073741824 < r2.flow.hi) || decide (100000 < r2.warm.hi))) S rfl (fun hb3 => ?_) (fun hb3 => ?_)
      · have h := bif_t hb3 h
        refine sym_seq lay_ok mixed [] [4] [1000] (⟨[(4, .v (.int .i64 12))], ⟨[(1000, .blk 91 [.v (.int .i64 r2.flow.lo), .v (.int .i64 r2.flow.hi), .v (.int .i64 r2.warm.lo), .v (.int .i64 r2.warm.hi), .gr 0])], [], [(0, ⟨25, 4, pre.length, pre.flatMap (fun x => [.int .i64 x.flow.lo, .int .i64 x.flow.hi, .int .i64 x.warm.lo, .int .i64 x.warm.hi])⟩)]⟩⟩) [] S (by kernel_rfl) (by kernel_rfl) (by kernel_rfl) trivial ?_
        clear S; intro E a w S
        refine wp_ret ?_
        refine out_then_ret ?_
        have h := Option.some.inj h
        subst h
        exact sym_ret lay_ok [.v (.int .i64 12)] (by kernel_rfl) rfl S ⟨rfl, pass_end S rfl rfl rfl rfl rfl⟩
      · have h := bif_f hb3 h
        refine wp_skip ?_
        refine out_then_normal ?_
        obtain ⟨g1, h⟩ := grd_some h
        refine wp_seq ?_
        refine sym_region_cutP lay_ok mixed [(9, { g := 1 })] 10 [54, 58, 63] [1000, 1] (⟨[(54, .own 1000 0), (58, .gr 0), (63, .row 1 0 1 1)], ⟨[(1000, .blk 91 [.v (.int .i64 r2.flow.lo), .v (.int .i64 r2.flow.hi), .v (.int .i64 r2.warm.lo), .v (.int .i64 r2.warm.hi), .gr 0]), (1, .blk 25 [.v (.int .i64 r2.flow.lo), .v (.int .i64 r2.flow.hi), .v (.int .i64 r2.warm.lo), .v (.int .i64 r2.warm.hi)])], [], [(0, ⟨25, 4, pre.length, pre.flatMap (fun x => [.int .i64 x.flow.lo, .int .i64 x.flow.hi, .int .i64 x.warm.lo, .int .i64 x.warm.hi])⟩)]⟩⟩) [] S (by kernel_rfl) (by kernel_rfl) (by kernel_rfl) trivial (by intro c d v a w h; cases d <;> exact h) ?_
        clear S; intro E a w S
        refine sym_append lay_ok rfl (.tmp 58) (.tmp 63) 29 rfl rfl S 0 1 0 1 1 25 [.v (.int .i64 r2.flow.lo), .v (.int .i64 r2.flow.hi), .v (.int .i64 r2.warm.lo), .v (.int .i64 r2.warm.hi)] ⟨25, 4, pre.length, pre.flatMap (fun x => [.int .i64 x.flow.lo, .int .i64 x.flow.hi, .int .i64 x.warm.lo, .int .i64 x.warm.hi])⟩ ⟨.str [(0, 2, true), (2, 2, true)], 4, [.int .i64 0, .int .i64 0, .int .i64 0, .int .i64 0], true, 32⟩ ⟨.sli 25 4, 1, [.slice none 0 0], false, 24⟩ rfl rfl rfl rfl rfl rfl rfl rfl (show 0 < 4 by decide) rfl rfl (fun e he => by cases he; exact Nat.lt_of_succ_le (Nat.le_of_ble_eq_true rfl)) ⟨25, 4, (pre ++ [(MWater.mk (MSpan.mk r2.flow.lo r2.flow.hi) (MSpan.mk r2.warm.lo r2.warm.hi))]).length, (pre ++ [(MWater.mk (MSpan.mk r2.flow.lo r2.flow.hi) (MSpan.mk r2.warm.lo r2.warm.hi))]).flatMap (fun x => [.int .i64 x.flow.lo, .int .i64 x.flow.hi, .int .i64 x.warm.lo, .int .i64 x.warm.hi])⟩ rfl rfl (by simp) (fun E => by simp [SV.vals, SV.val]) (Nat.le_trans g1 (by decide)) (show (pre.length + 1) * 32 ≤ 140737488355328 by have := g1; omega) rfl ?_
        clear S; intro v0 E a w S; have S := St.pickG S [54, 63, 64] [1000, 1] [0] (⟨[(54, .own 1000 0), (63, .row 1 0 1 1), (64, .gr 0)], ⟨[(1000, .blk 91 [.v (.int .i64 r2.flow.lo), .v (.int .i64 r2.flow.hi), .v (.int .i64 r2.warm.lo), .v (.int .i64 r2.warm.hi), .v (v0)]), (1, .blk 25 [.v (.int .i64 r2.flow.lo), .v (.int .i64 r2.flow.hi), .v (.int .i64 r2.warm.lo), .v (.int .i64 r2.warm.hi)])], [], [(0, ⟨25, 4, (pre ++ [(MWater.mk (MSpan.mk r2.flow.lo r2.flow.hi) (MSpan.mk r2.warm.lo r2.warm.hi))]).length, (pre ++ [(MWater.mk (MSpan.mk r2.flow.lo r2.flow.hi) (MSpan.mk r2.warm.lo r2.warm.hi))]).flatMap (fun x => [.int .i64 x.flow.lo, .int .i64 x.flow.hi, .int .i64 x.warm.lo, .int .i64 x.warm.hi])⟩)]⟩⟩) (by kernel_rfl)
        refine sym_runP lay_ok [] 11 3 [] [1000] (⟨[], ⟨[(1000, .blk 91 [.v (.int .i64 r2.flow.lo), .v (.int .i64 r2.flow.hi), .v (.int .i64 r2.warm.lo), .v (.int .i64 r2.warm.hi), .gr 0])], [], [(0, ⟨25, 4, (pre ++ [(MWater.mk (MSpan.mk r2.flow.lo r2.flow.hi) (MSpan.mk r2.warm.lo r2.warm.hi))]).length, (pre ++ [(MWater.mk (MSpan.mk r2.flow.lo r2.flow.hi) (MSpan.mk r2.warm.lo r2.warm.hi))]).flatMap (fun x => [.int .i64 x.flow.lo, .int .i64 x.flow.hi, .int .i64 x.warm.lo, .int .i64 x.warm.hi])⟩)]⟩⟩) [] S (by kernel_rfl) (by kernel_rfl) trivial ?_
        clear S; intro E a w S
        refine sym_done rfl ?_
        refine out_then_normal ?_
        have S := St.pickG S [] [1000] [0] (⟨[], ⟨[(1000, .blk 91 [.v (.int .i64 r2.flow.lo), .v (.int .i64 r2.flow.hi), .v (.int .i64 r2.warm.lo), .v (.int .i64 r2.warm.hi), .gr 0])], [], [(0, ⟨25, 4, (pre ++ [(MWater.mk (MSpan.mk r2.flow.lo r2.flow.hi) (MSpan.mk r2.warm.lo r2.warm.hi))]).length, (pre ++ [(MWater.mk (MSpan.mk r2.flow.lo r2.flow.hi) (MSpan.mk r2.warm.lo r2.warm.hi))]).flatMap (fun x => [.int .i64 x.flow.lo, .int .i64 x.flow.hi, .int .i64 x.warm.lo, .int .i64 x.warm.hi])⟩)]⟩⟩) (by kernel_rfl)
        refine sym_seq lay_ok mixed [] [4] [1000] (⟨[(4, .v (.int .i64 0))], ⟨[(1000, .blk 91 [.v (.int .i64 r2.flow.lo), .v (.int .i64 r2.flow.hi), .v (.int .i64 r2.warm.lo), .v (.int .i64 r2.warm.hi), .gr 0])], [], [(0, ⟨25, 4, (pre ++ [(MWater.mk (MSpan.mk r2.flow.lo r2.flow.hi) (MSpan.mk r2.warm.lo r2.warm.hi))]).length, (pre ++ [(MWater.mk (MSpan.mk r2.flow.lo r2.flow.hi) (MSpan.mk r2.warm.lo r2.warm.hi))]).flatMap (fun x => [.int .i64 x.flow.lo, .int .i64 x.flow.hi, .int .i64 x.warm.lo, .int .i64 x.warm.hi])⟩)]⟩⟩) [] S (by kernel_rfl) (by kernel_rfl) (by kernel_rfl) trivial ?_
        clear S; intro E a w S
        refine wp_ret ?_
        have h := Option.some.inj h
        subst h
        exact sym_ret lay_ok [.v (.int .i64 0)] (by kernel_rfl) rfl S ⟨rfl, pass_end S rfl rfl rfl rfl rfl⟩
def pass2 (c : MWater) (pre : List MWater) (p : MPoint) : Option (MWater × List MWater × Int) :=
(stream_add_valid (MAdd.mk (MSpan.mk p.heat.lo p.heat.hi))).bind fun (r1 : Bool) =>
(bif (!r1) then
(some ((MWater.mk (MSpan.mk c.flow.lo c.flow.hi) (MSpan.mk c.warm.lo c.warm.hi)), pre, 1))
else
((stream_add_behind (MAdd.mk (MSpan.mk p.heat.lo p.heat.hi)) (MWater.mk (MSpan.mk c.flow.lo c.flow.hi) (MSpan.mk c.warm.lo c.warm.hi))).bind fun (r2 : MWater) =>
(bif decide (r2.flow.lo < 1) then
(some ((MWater.mk (MSpan.mk r2.flow.lo r2.flow.hi) (MSpan.mk r2.warm.lo r2.warm.hi)), pre, 10))
else
((bif (decide (1073741824 < r2.flow.hi) || decide (100000 < r2.warm.hi)) then
(some ((MWater.mk (MSpan.mk r2.flow.lo r2.flow.hi) (MSpan.mk r2.warm.lo r2.warm.hi)), pre, 12))
else
(grd ((pre.length + 1 ≤ 1000000)) <|
some ((MWater.mk (MSpan.mk r2.flow.lo r2.flow.hi) (MSpan.mk r2.warm.lo r2.warm.hi)), (pre ++ [(MWater.mk (MSpan.mk r2.flow.lo r2.flow.hi) (MSpan.mk r2.warm.lo r2.warm.hi))]), 0)))))))
set_option maxRecDepth 100000 in
set_option maxHeartbeats 4000000 in
theorem pass2_ok (c : MWater) (pre : List MWater) (p : MPoint) (W : World) (b : Nat) (V : Value) (hB : Blk W b 91 #[.int .i64 c.flow.lo, .int .i64 c.flow.hi, .int .i64 c.warm.lo, .int .i64 c.warm.hi, V]) (hG : GrAt W 0 (wGQ pre) V) (hV : V.ownBlock ≠ some b) (res : MWater × List MWater × Int) (h : pass2 c pre p = some res) :
    Calls Go.Proofs.Try.prog 54 #[.pointer (some ⟨b, 0, none⟩), .agg #[.int .i64 2, .int .i64 p.flow.lo, .int .i64 p.flow.hi, .int .i64 p.warm.lo, .int .i64 p.warm.hi, .int .i64 p.heat.lo, .int .i64 p.heat.hi, .int .i64 p.share.lo, .int .i64 p.share.hi]] W fun e w' => e = .returned (.int .i64 res.2.2) ∧ Passed b V res.1 res.2.1 W w' := by
  refine sym_closure_g (f := 54) (fn := Go.Proofs.Try.f54) (c := Go.Proofs.Try.f54.body.get rfl) Go.Proofs.Try.func54 rfl [.own 1000 0, .agg [.v (.int .i64 2), .v (.int .i64 p.flow.lo), .v (.int .i64 p.flow.hi), .v (.int .i64 p.warm.lo), .v (.int .i64 p.warm.hi), .v (.int .i64 p.heat.lo), .v (.int .i64 p.heat.hi), .v (.int .i64 p.share.lo), .v (.int .i64 p.share.hi)]] [⟨1000, b, 91, [.v (.int .i64 c.flow.lo), .v (.int .i64 c.flow.hi), .v (.int .i64 c.warm.lo), .v (.int .i64 c.warm.hi), .gr 0]⟩] [(1000, .blk 91 [.v (.int .i64 c.flow.lo), .v (.int .i64 c.flow.hi), .v (.int .i64 c.warm.lo), .v (.int .i64 c.warm.hi), .gr 0])] rfl ⟨25, 4, pre.length, pre.flatMap (fun x => [.int .i64 x.flow.lo, .int .i64 x.flow.hi, .int .i64 x.warm.lo, .int .i64 x.warm.hi])⟩ V (by kernel_rfl) ⟨hB, trivial⟩ ⟨trivial, trivial⟩ hG (fun k hk => ⟨fun (e : k = b) => hV (e ▸ hk), trivial⟩) fun E a w S => ?_
  rw [pass2] at h
  refine sym_seq lay_ok mixed [(0, { g := 0 })] [0, 3] [1000, 0] (⟨[(0, .own 1000 0), (3, .own 0 0)], ⟨[(1000, .blk 91 [.v (.int .i64 c.flow.lo), .v (.int .i64 c.flow.hi), .v (.int .i64 c.warm.lo), .v (.int .i64 c.warm.hi), .gr 0]), (0, .blk 47 [.v (.int .i64 2), .v (.int .i64 p.flow.lo), .v (.int .i64 p.flow.hi), .v (.int .i64 p.warm.lo), .v (.int .i64 p.warm.hi), .v (.int .i64 p.heat.lo), .v (.int .i64 p.heat.hi), .v (.int .i64 p.share.lo), .v (.int .i64 p.share.hi)])], [], [(0, ⟨25, 4, pre.length, pre.flatMap (fun x => [.int .i64 x.flow.lo, .int .i64 x.flow.hi, .int .i64 x.warm.lo, .int .i64 x.warm.hi])⟩)]⟩⟩) [] S (by kernel_rfl) (by kernel_rfl) (by kernel_rfl) trivial ?_
  clear S; intro E a w S
  refine sym_seq lay_ok mixed [(1, { res := .tup [.v (.iface 118 (.agg #[.int .i64 p.heat.lo, .int .i64 p.heat.hi])), .v (.bool true)] })] [0, 5, 6] [1000] (⟨[(0, .own 1000 0), (5, .v (.iface 118 (.agg #[.int .i64 p.heat.lo, .int .i64 p.heat.hi]))), (6, .v (.bool true))], ⟨[(1000, .blk 91 [.v (.int .i64 c.flow.lo), .v (.int .i64 c.flow.hi), .v (.int .i64 c.warm.lo), .v (.int .i64 c.warm.hi), .gr 0])], [], [(0, ⟨25, 4, pre.length, pre.flatMap (fun x => [.int .i64 x.flow.lo, .int .i64 x.flow.hi, .int .i64 x.warm.lo, .int .i64 x.warm.hi])⟩)]⟩⟩) [.call ⟨[], [], [(0, ⟨25, 4, pre.length, pre.flatMap (fun x => [.int .i64 x.flow.lo, .int .i64 x.flow.hi, .int .i64 x.warm.lo, .int .i64 x.warm.hi])⟩)]⟩ 65 [.agg [.v (.int .i64 2), .v (.int .i64 p.flow.lo), .v (.int .i64 p.flow.hi), .v (.int .i64 p.warm.lo), .v (.int .i64 p.warm.hi), .v (.int .i64 p.heat.lo), .v (.int .i64 p.heat.hi), .v (.int .i64 p.share.lo), .v (.int .i64 p.share.hi)]] (.tup [.v (.iface 118 (.agg #[.int .i64 p.heat.lo, .int .i64 p.heat.hi])), .v (.bool true)])] S (by kernel_rfl) (by kernel_rfl) (by kernel_rfl) ⟨⟨enters_65, fun _ W _ _ => pointOf2_ok (MPoint.mk 2 (MSpan.mk p.flow.lo p.flow.hi) (MSpan.mk p.warm.lo p.warm.hi) (MSpan.mk p.heat.lo p.heat.hi) (MSpan.mk p.share.lo p.share.hi)) W⟩, trivial⟩ ?_
  clear S; intro E a w S
  refine wp_seq ?_
  obtain ⟨r1, e1, h⟩ := bind_some h
  refine sym_seq lay_ok mixed [(4, { res := .v (.bool r1), pf := some (94, [.agg [.v (.int .i64 p.heat.lo), .v (.int .i64 p.heat.hi)]]) })] [0, 5, 18] [1000] (⟨[(0, .own 1000 0), (5, .v (.iface 118 (.agg #[.int .i64 p.heat.lo, .int .i64 p.heat.hi]))), (18, .v (.bool (!r1)))], ⟨[(1000, .blk 91 [.v (.int .i64 c.flow.lo), .v (.int .i64 c.flow.hi), .v (.int .i64 c.warm.lo), .v (.int .i64 c.warm.hi), .gr 0])], [], [(0, ⟨25, 4, pre.length, pre.flatMap (fun x => [.int .i64 x.flow.lo, .int .i64 x.flow.hi, .int .i64 x.warm.lo, .int .i64 x.warm.hi])⟩)]⟩⟩) [.call ⟨[], [], [(0, ⟨25, 4, pre.length, pre.flatMap (fun x => [.int .i64 x.flow.lo, .int .i64 x.flow.hi, .int .i64 x.warm.lo, .int .i64 x.warm.hi])⟩)]⟩ 94 [.agg [.v (.int .i64 p.heat.lo), .v (.int .i64 p.heat.hi)]] (.v (.bool r1)), .ent (.call ⟨.invoke (.tmp 15) "wormtub/stream.valid", #[], #[]⟩) [.v (.iface 118 (.agg #[.int .i64 p.heat.lo, .int .i64 p.heat.hi]))] 94 [.agg [.v (.int .i64 p.heat.lo), .v (.int .i64 p.heat.hi)]]] S (by kernel_rfl) (by kernel_rfl) (by kernel_rfl) ⟨⟨enters_94, fun _ W _ hm => stream_add_valid_ok (MAdd.mk (MSpan.mk p.heat.lo p.heat.hi)) W r1 e1⟩, ent_invoke (fun _ => rfl) (fun _ => by kernel_rfl) enters_94, trivial⟩ ?_
  clear S; intro E a w S
  refine sym_if_last (b := (!r1)) S rfl (fun hb1 => ?_) (fun hb1 => ?_)
  · have h := bif_t hb1 h
    refine sym_seq lay_ok mixed [] [4] [1000] (⟨[(4, .v (.int .i64 1))], ⟨[(1000, .blk 91 [.v (.int .i64 c.flow.lo), .v (.int .i64 c.flow.hi), .v (.int .i64 c.warm.lo), .v (.int .i64 c.warm.hi), .gr 0])], [], [(0, ⟨25, 4, pre.length, pre.flatMap (fun x => [.int .i64 x.flow.lo, .int .i64 x.flow.hi, .int .i64 x.warm.lo, .int .i64 x.warm.hi])⟩)]⟩⟩) [] S (by kernel_rfl) (by kernel_rfl) (by kernel_rfl) trivial ?_
    clear S; intro E a w S
    refine wp_ret ?_
    refine out_then_ret ?_
    have h := Option.some.inj h
    subst h
    exact sym_ret lay_ok [.v (.int .i64 1)] (by kernel_rfl) rfl S ⟨rfl, pass_end S rfl rfl rfl rfl rfl⟩
  · have h := bif_f hb1 h
    refine wp_skip ?_
    refine out_then_normal ?_
    obtain ⟨r2, e2, h⟩ := bind_some h
    refine sym_seq lay_ok mixed [(6, { px := some (.v (.func (.method "wormtub/stream.behind") #[.iface 118 (.agg #[.int .i64 p.heat.lo, .int .i64 p.heat.hi])] #[])) }), (7, { px := some (.v (.func (.method "wormtub/stream.behind") #[.iface 118 (.agg #[.int .i64 p.heat.lo, .int .i64 p.heat.hi])] #[])) }), (9, { res := .agg [.v (.int .i64 r2.flow.lo), .v (.int .i64 r2.flow.hi), .v (.int .i64 r2.warm.lo), .v (.int .i64 r2.warm.hi)], pf := some (93, [.agg [.v (.int .i64 p.heat.lo), .v (.int .i64 p.heat.hi)], .agg [.v (.int .i64 c.flow.lo), .v (.int .i64 c.flow.hi), .v (.int .i64 c.warm.lo), .v (.int .i64 c.warm.hi)]]) })] [0] [1000] (⟨[(0, .own 1000 0)], ⟨[(1000, .blk 91 [.v (.int .i64 r2.flow.lo), .v (.int .i64 r2.flow.hi), .v (.int .i64 r2.warm.lo), .v (.int .i64 r2.warm.hi), .gr 0])], [], [(0, ⟨25, 4, pre.length, pre.flatMap (fun x => [.int .i64 x.flow.lo, .int .i64 x.flow.hi, .int .i64 x.warm.lo, .int .i64 x.warm.hi])⟩)]⟩⟩) [.pure ⟨[], [], [(0, ⟨25, 4, pre.length, pre.flatMap (fun x => [.int .i64 x.flow.lo, .int .i64 x.flow.hi, .int .i64 x.warm.lo, .int .i64 x.warm.hi])⟩)]⟩ (.makeFunc (.method "wormtub/stream.behind") #[.tmp 20] #[]) [.v (.iface 118 (.agg #[.int .i64 p.heat.lo, .int .i64 p.heat.hi]))] (.v (.func (.method "wormtub/stream.behind") #[.iface 118 (.agg #[.int .i64 p.heat.lo, .int .i64 p.heat.hi])] #[])), .pure ⟨[], [], [(0, ⟨25, 4, pre.length, pre.flatMap (fun x => [.int .i64 x.flow.lo, .int .i64 x.flow.hi, .int .i64 x.warm.lo, .int .i64 x.warm.hi])⟩)]⟩ (.nilCheck (.tmp 25)) [.v (.func (.method "wormtub/stream.behind") #[.iface 118 (.agg #[.int .i64 p.heat.lo, .int .i64 p.heat.hi])] #[])] (.v (.func (.method "wormtub/stream.behind") #[.iface 118 (.agg #[.int .i64 p.heat.lo, .int .i64 p.heat.hi])] #[])), .call ⟨[], [], [(0, ⟨25, 4, pre.length, pre.flatMap (fun x => [.int .i64 x.flow.lo, .int .i64 x.flow.hi, .int .i64 x.warm.lo, .int .i64 x.warm.hi])⟩)]⟩ 93 [.agg [.v (.int .i64 p.heat.lo), .v (.int .i64 p.heat.hi)], .agg [.v (.int .i64 c.flow.lo), .v (.int .i64 c.flow.hi), .v (.int .i64 c.warm.lo), .v (.int .i64 c.warm.hi)]] (.agg [.v (.int .i64 r2.flow.lo), .v (.int .i64 r2.flow.hi), .v (.int .i64 r2.warm.lo), .v (.int .i64 r2.warm.hi)]), .ent (.call ⟨.invoke (.tmp 27) "wormtub/stream.behind", #[.tmp 24], #[25]⟩) [.v (.iface 118 (.agg #[.int .i64 p.heat.lo, .int .i64 p.heat.hi])), .agg [.v (.int .i64 c.flow.lo), .v (.int .i64 c.flow.hi), .v (.int .i64 c.warm.lo), .v (.int .i64 c.warm.hi)]] 93 [.agg [.v (.int .i64 p.heat.lo), .v (.int .i64 p.heat.hi)], .agg [.v (.int .i64 c.flow.lo), .v (.int .i64 c.flow.hi), .v (.int .i64 c.warm.lo), .v (.int .i64 c.warm.hi)]]] S (by kernel_rfl) (by kernel_rfl) (by kernel_rfl) ⟨pure_method, pure_nilMethod (fun _ => by kernel_rfl), ⟨enters_93, fun _ W _ hm => stream_add_behind_ok (MAdd.mk (MSpan.mk p.heat.lo p.heat.hi)) (MWater.mk (MSpan.mk c.flow.lo c.flow.hi) (MSpan.mk c.warm.lo c.warm.hi)) W r2 e2⟩, ent_invoke (fun _ => rfl) (fun _ => by kernel_rfl) enters_93, trivial⟩ ?_
    clear S; intro E a w S
    refine wp_seq ?_
    refine sym_seq lay_ok mixed [] [0, 37] [1000] (⟨[(0, .own 1000 0), (37, .v (.bool (decide (r2.flow.lo < 1))))], ⟨[(1000, .blk 91 [.v (.int .i64 r2.flow.lo), .v (.int .i64 r2.flow.hi), .v (.int .i64 r2.warm.lo), .v (.int .i64 r2.warm.hi), .gr 0])], [], [(0, ⟨25, 4, pre.length, pre.flatMap (fun x => [.int .i64 x.flow.lo, .int .i64 x.flow.hi, .int .i64 x.warm.lo, .int .i64 x.warm.hi])⟩)]⟩⟩) [] S (by kernel_rfl) (by kernel_rfl) (by kernel_rfl) trivial ?_
    clear S; intro E a w S
    refine sym_if_last (b := decide (r2.flow.lo < 1)) S rfl (fun hb2 => ?_) (fun hb2 => ?_)
    · have h := bif_t hb2 h
      refine sym_seq lay_ok mixed [] [4] [1000] (⟨[(4, .v (.int .i64 10))], ⟨[(1000, .blk 91 [.v (.int .i64 r2.flow.lo), .v (.int .i64 r2.flow.hi), .v (.int .i64 r2.warm.lo), .v (.int .i64 r2.warm.hi), .gr 0])], [], [(0, ⟨25, 4, pre.length, pre.flatMap (fun x => [.int .i64 x.flow.lo, .int .i64 x.flow.hi, .int .i64 x.warm.lo, .int .i64 x.warm.hi])⟩)]⟩⟩) [] S (by kernel_rfl) (by kernel_rfl) (by kernel_rfl) trivial ?_
      clear S; intro E a w S
      refine wp_ret ?_
      refine out_then_ret ?_
      have h := Option.some.inj h
      subst h
      exact sym_ret lay_ok [.v (.int .i64 10)] (by kernel_rfl) rfl S ⟨rfl, pass_end S rfl rfl rfl rfl rfl⟩
    · have h := bif_f hb2 h
      refine wp_skip ?_
      refine out_then_normal ?_
      refine wp_seq ?_
      refine sym_seq lay_ok mixed [(8, { og := true }), (9, { og := true }), (10, { og := true }), (11, { og := true }), (12, { og := true }), (13, { og := true }), (14, { og := true }), (15, { pk := true })] [0, 53] [1000] (⟨[(0, .own 1000 0), (53, .v (.bool (decide (1073741824 < r2.flow.hi) || decide (100000 < r2.warm.hi))))], ⟨[(1000, .blk 91 [.v (.int .i64 r2.flow.lo), .v (.int .i64 r2.flow.hi), .v (.int .i64 r2.warm.lo), .v (.int .i64 r2.warm.hi), .gr 0])], [], [(0, ⟨25, 4, pre.length, pre.flatMap (fun x => [.int .i64 x.flow.lo, .int .i64 x.flow.hi, .int .i64 x.warm.lo, .int .i64 x.warm.hi])⟩)]⟩⟩) [.imp (!(decide (1073741824 < r2.flow.hi))) (!(decide (1073741824 < r2.flow.hi))), .imp (!(decide (1073741824 < r2.flow.hi))) (!(decide (1073741824 < r2.flow.hi))), .imp (!(decide (1073741824 < r2.flow.hi))) (!(decide (1073741824 < r2.flow.hi))), .imp (!(decide (1073741824 < r2.flow.hi))) (!(decide (1073741824 < r2.flow.hi))), .imp (!(decide (1073741824 < r2.flow.hi))) (!(decide (1073741824 < r2.flow.hi))), .imp (!(decide (1073741824 < r2.flow.hi))) (!(decide (1073741824 < r2.flow.hi))), .imp (!(decide (1073741824 < r2.flow.hi))) (!(decide (1073741824 < r2.flow.hi)))] S (by kernel_rfl) (by kernel_rfl) (by kernel_rfl) ⟨fun h => h, fun h => h, fun h => h, fun h => h, fun h => h, fun h => h, fun h => h, trivial⟩ ?_
      clear S; intro E a w S
      refine sym_if_last (b := (decide (1073741824 < r2.flow.hi) || decide (100000 < r2.warm.hi))) S rfl (fun hb3 => ?_) (fun hb3 => ?_)
      · have h := bif_t hb3 h
        refine sym_seq lay_ok mixed [] [4] [1000] (⟨[(4, .v (.int .i64 12))], ⟨[(1000, .blk 91 [.v (.int .i64 r2.flow.lo), .v (.int .i64 r2.flow.hi), .v (.int .i64 r2.warm.lo), .v (.int .i64 r2.warm.hi), .gr 0])], [], [(0, ⟨25, 4, pre.length, pre.flatMap (fun x => [.int .i64 x.flow.lo, .int .i64 x.flow.hi, .int .i64 x.warm.lo, .int .i64 x.warm.hi])⟩)]⟩⟩) [] S (by kernel_rfl) (by kernel_rfl) (by kernel_rfl) trivial ?_
        clear S; intro E a w S
        refine wp_ret ?_
        refine out_then_ret ?_
        have h := Option.some.inj h
        subst h
        exact sym_ret lay_ok [.v (.int .i64 12)] (by kernel_rfl) rfl S ⟨rfl, pass_end S rfl rfl rfl rfl rfl⟩
      · have h := bif_f hb3 h
        refine wp_skip ?_
        refine out_then_normal ?_
        obtain ⟨g1, h⟩ := grd_some h
        refine wp_seq ?_
        refine sym_region_cutP lay_ok mixed [(9, { g := 1 })] 10 [54, 58, 63] [1000, 1] (⟨[(54, .own 1000 0), (58, .gr 0), (63, .row 1 0 1 1)], ⟨[(1000, .blk 91 [.v (.int .i64 r2.flow.lo), .v (.int .i64 r2.flow.hi), .v (.int .i64 r2.warm.lo), .v (.int .i64 r2.warm.hi), .gr 0]), (1, .blk 25 [.v (.int .i64 r2.flow.lo), .v (.int .i64 r2.flow.hi), .v (.int .i64 r2.warm.lo), .v (.int .i64 r2.warm.hi)])], [], [(0, ⟨25, 4, pre.length, pre.flatMap (fun x => [.int .i64 x.flow.lo, .int .i64 x.flow.hi, .int .i64 x.warm.lo, .int .i64 x.warm.hi])⟩)]⟩⟩) [] S (by kernel_rfl) (by kernel_rfl) (by kernel_rfl) trivial (by intro c d v a w h; cases d <;> exact h) ?_
        clear S; intro E a w S
        refine sym_append lay_ok rfl (.tmp 58) (.tmp 63) 29 rfl rfl S 0 1 0 1 1 25 [.v (.int .i64 r2.flow.lo), .v (.int .i64 r2.flow.hi), .v (.int .i64 r2.warm.lo), .v (.int .i64 r2.warm.hi)] ⟨25, 4, pre.length, pre.flatMap (fun x => [.int .i64 x.flow.lo, .int .i64 x.flow.hi, .int .i64 x.warm.lo, .int .i64 x.warm.hi])⟩ ⟨.str [(0, 2, true), (2, 2, true)], 4, [.int .i64 0, .int .i64 0, .int .i64 0, .int .i64 0], true, 32⟩ ⟨.sli 25 4, 1, [.slice none 0 0], false, 24⟩ rfl rfl rfl rfl rfl rfl rfl rfl (show 0 < 4 by decide) rfl rfl (fun e he => by cases he; exact Nat.lt_of_succ_le (Nat.le_of_ble_eq_true rfl)) ⟨25, 4, (pre ++ [(MWater.mk (MSpan.mk r2.flow.lo r2.flow.hi) (MSpan.mk r2.warm.lo r2.warm.hi))]).length, (pre ++ [(MWater.mk (MSpan.mk r2.flow.lo r2.flow.hi) (MSpan.mk r2.warm.lo r2.warm.hi))]).flatMap (fun x => [.int .i64 x.flow.lo, .int .i64 x.flow.hi, .int .i64 x.warm.lo, .int .i64 x.warm.hi])⟩ rfl rfl (by simp) (fun E => by simp [SV.vals, SV.val]) (Nat.le_trans g1 (by decide)) (show (pre.length + 1) * 32 ≤ 140737488355328 by have := g1; omega) rfl ?_
        clear S; intro v0 E a w S; have S := St.pickG S [54, 63, 64] [1000, 1] [0] (⟨[(54, .own 1000 0), (63, .row 1 0 1 1), (64, .gr 0)], ⟨[(1000, .blk 91 [.v (.int .i64 r2.flow.lo), .v (.int .i64 r2.flow.hi), .v (.int .i64 r2.warm.lo), .v (.int .i64 r2.warm.hi), .v (v0)]), (1, .blk 25 [.v (.int .i64 r2.flow.lo), .v (.int .i64 r2.flow.hi), .v (.int .i64 r2.warm.lo), .v (.int .i64 r2.warm.hi)])], [], [(0, ⟨25, 4, (pre ++ [(MWater.mk (MSpan.mk r2.flow.lo r2.flow.hi) (MSpan.mk r2.warm.lo r2.warm.hi))]).length, (pre ++ [(MWater.mk (MSpan.mk r2.flow.lo r2.flow.hi) (MSpan.mk r2.warm.lo r2.warm.hi))]).flatMap (fun x => [.int .i64 x.flow.lo, .int .i64 x.flow.hi, .int .i64 x.warm.lo, .int .i64 x.warm.hi])⟩)]⟩⟩) (by kernel_rfl)
        refine sym_runP lay_ok [] 11 3 [] [1000] (⟨[], ⟨[(1000, .blk 91 [.v (.int .i64 r2.flow.lo), .v (.int .i64 r2.flow.hi), .v (.int .i64 r2.warm.lo), .v (.int .i64 r2.warm.hi), .gr 0])], [], [(0, ⟨25, 4, (pre ++ [(MWater.mk (MSpan.mk r2.flow.lo r2.flow.hi) (MSpan.mk r2.warm.lo r2.warm.hi))]).length, (pre ++ [(MWater.mk (MSpan.mk r2.flow.lo r2.flow.hi) (MSpan.mk r2.warm.lo r2.warm.hi))]).flatMap (fun x => [.int .i64 x.flow.lo, .int .i64 x.flow.hi, .int .i64 x.warm.lo, .int .i64 x.warm.hi])⟩)]⟩⟩) [] S (by kernel_rfl) (by kernel_rfl) trivial ?_
        clear S; intro E a w S
        refine sym_done rfl ?_
        refine out_then_normal ?_
        have S := St.pickG S [] [1000] [0] (⟨[], ⟨[(1000, .blk 91 [.v (.int .i64 r2.flow.lo), .v (.int .i64 r2.flow.hi), .v (.int .i64 r2.warm.lo), .v (.int .i64 r2.warm.hi), .gr 0])], [], [(0, ⟨25, 4, (pre ++ [(MWater.mk (MSpan.mk r2.flow.lo r2.flow.hi) (MSpan.mk r2.warm.lo r2.warm.hi))]).length, (pre ++ [(MWater.mk (MSpan.mk r2.flow.lo r2.flow.hi) (MSpan.mk r2.warm.lo r2.warm.hi))]).flatMap (fun x => [.int .i64 x.flow.lo, .int .i64 x.flow.hi, .int .i64 x.warm.lo, .int .i64 x.warm.hi])⟩)]⟩⟩) (by kernel_rfl)
        refine sym_seq lay_ok mixed [] [4] [1000] (⟨[(4, .v (.int .i64 0))], ⟨[(1000, .blk 91 [.v (.int .i64 r2.flow.lo), .v (.int .i64 r2.flow.hi), .v (.int .i64 r2.warm.lo), .v (.int .i64 r2.warm.hi), .gr 0])], [], [(0, ⟨25, 4, (pre ++ [(MWater.mk (MSpan.mk r2.flow.lo r2.flow.hi) (MSpan.mk r2.warm.lo r2.warm.hi))]).length, (pre ++ [(MWater.mk (MSpan.mk r2.flow.lo r2.flow.hi) (MSpan.mk r2.warm.lo r2.warm.hi))]).flatMap (fun x => [.int .i64 x.flow.lo, .int .i64 x.flow.hi, .int .i64 x.warm.lo, .int .i64 x.warm.hi])⟩)]⟩⟩) [] S (by kernel_rfl) (by kernel_rfl) (by kernel_rfl) trivial ?_
        clear S; intro E a w S
        refine wp_ret ?_
        have h := Option.some.inj h
        subst h
        exact sym_ret lay_ok [.v (.int .i64 0)] (by kernel_rfl) rfl S ⟨rfl, pass_end S rfl rfl rfl rfl rfl⟩
def pass3 (c : MWater) (pre : List MWater) (p : MPoint) : Option (MWater × List MWater × Int) :=
(stream_air_valid (MAir.mk (MSpan.mk p.warm.lo p.warm.hi) (MSpan.mk p.share.lo p.share.hi))).bind fun (r1 : Bool) =>
(bif (!r1) then
(some ((MWater.mk (MSpan.mk c.flow.lo c.flow.hi) (MSpan.mk c.warm.lo c.warm.hi)), pre, 1))
else
((stream_air_behind (MAir.mk (MSpan.mk p.warm.lo p.warm.hi) (MSpan.mk p.share.lo p.share.hi)) (MWater.mk (MSpan.mk c.flow.lo c.flow.hi) (MSpan.mk c.warm.lo c.warm.hi))).bind fun (r2 : MWater) =>
(bif decide (r2.flow.lo < 1) then
(some ((MWater.mk (MSpan.mk r2.flow.lo r2.flow.hi) (MSpan.mk r2.warm.lo r2.warm.hi)), pre, 10))
else
((bif (decide (1073741824 < r2.flow.hi) || decide (100000 < r2.warm.hi)) then
(some ((MWater.mk (MSpan.mk r2.flow.lo r2.flow.hi) (MSpan.mk r2.warm.lo r2.warm.hi)), pre, 12))
else
(grd ((pre.length + 1 ≤ 1000000)) <|
some ((MWater.mk (MSpan.mk r2.flow.lo r2.flow.hi) (MSpan.mk r2.warm.lo r2.warm.hi)), (pre ++ [(MWater.mk (MSpan.mk r2.flow.lo r2.flow.hi) (MSpan.mk r2.warm.lo r2.warm.hi))]), 0)))))))
set_option maxRecDepth 100000 in
set_option maxHeartbeats 4000000 in
theorem pass3_ok (c : MWater) (pre : List MWater) (p : MPoint) (W : World) (b : Nat) (V : Value) (hB : Blk W b 91 #[.int .i64 c.flow.lo, .int .i64 c.flow.hi, .int .i64 c.warm.lo, .int .i64 c.warm.hi, V]) (hG : GrAt W 0 (wGQ pre) V) (hV : V.ownBlock ≠ some b) (res : MWater × List MWater × Int) (h : pass3 c pre p = some res) :
    Calls Go.Proofs.Try.prog 54 #[.pointer (some ⟨b, 0, none⟩), .agg #[.int .i64 3, .int .i64 p.flow.lo, .int .i64 p.flow.hi, .int .i64 p.warm.lo, .int .i64 p.warm.hi, .int .i64 p.heat.lo, .int .i64 p.heat.hi, .int .i64 p.share.lo, .int .i64 p.share.hi]] W fun e w' => e = .returned (.int .i64 res.2.2) ∧ Passed b V res.1 res.2.1 W w' := by
  refine sym_closure_g (f := 54) (fn := Go.Proofs.Try.f54) (c := Go.Proofs.Try.f54.body.get rfl) Go.Proofs.Try.func54 rfl [.own 1000 0, .agg [.v (.int .i64 3), .v (.int .i64 p.flow.lo), .v (.int .i64 p.flow.hi), .v (.int .i64 p.warm.lo), .v (.int .i64 p.warm.hi), .v (.int .i64 p.heat.lo), .v (.int .i64 p.heat.hi), .v (.int .i64 p.share.lo), .v (.int .i64 p.share.hi)]] [⟨1000, b, 91, [.v (.int .i64 c.flow.lo), .v (.int .i64 c.flow.hi), .v (.int .i64 c.warm.lo), .v (.int .i64 c.warm.hi), .gr 0]⟩] [(1000, .blk 91 [.v (.int .i64 c.flow.lo), .v (.int .i64 c.flow.hi), .v (.int .i64 c.warm.lo), .v (.int .i64 c.warm.hi), .gr 0])] rfl ⟨25, 4, pre.length, pre.flatMap (fun x => [.int .i64 x.flow.lo, .int .i64 x.flow.hi, .int .i64 x.warm.lo, .int .i64 x.warm.hi])⟩ V (by kernel_rfl) ⟨hB, trivial⟩ ⟨trivial, trivial⟩ hG (fun k hk => ⟨fun (e : k = b) => hV (e ▸ hk), trivial⟩) fun E a w S => ?_
  rw [pass3] at h
  refine sym_seq lay_ok mixed [(0, { g := 0 })] [0, 3] [1000, 0] (⟨[(0, .own 1000 0), (3, .own 0 0)], ⟨[(1000, .blk 91 [.v (.int .i64 c.flow.lo), .v (.int .i64 c.flow.hi), .v (.int .i64 c.warm.lo), .v (.int .i64 c.warm.hi), .gr 0]), (0, .blk 47 [.v (.int .i64 3), .v (.int .i64 p.flow.lo), .v (.int .i64 p.flow.hi), .v (.int .i64 p.warm.lo), .v (.int .i64 p.warm.hi), .v (.int .i64 p.heat.lo), .v (.int .i64 p.heat.hi), .v (.int .i64 p.share.lo), .v (.int .i64 p.share.hi)])], [], [(0, ⟨25, 4, pre.length, pre.flatMap (fun x => [.int .i64 x.flow.lo, .int .i64 x.flow.hi, .int .i64 x.warm.lo, .int .i64 x.warm.hi])⟩)]⟩⟩) [] S (by kernel_rfl) (by kernel_rfl) (by kernel_rfl) trivial ?_
  clear S; intro E a w S
  refine sym_seq lay_ok mixed [(1, { res := .tup [.v (.iface 120 (.agg #[.int .i64 p.warm.lo, .int .i64 p.warm.hi, .int .i64 p.share.lo, .int .i64 p.share.hi])), .v (.bool true)] })] [0, 5, 6] [1000] (⟨[(0, .own 1000 0), (5, .v (.iface 120 (.agg #[.int .i64 p.warm.lo, .int .i64 p.warm.hi, .int .i64 p.share.lo, .int .i64 p.share.hi]))), (6, .v (.bool true))], ⟨[(1000, .blk 91 [.v (.int .i64 c.flow.lo), .v (.int .i64 c.flow.hi), .v (.int .i64 c.warm.lo), .v (.int .i64 c.warm.hi), .gr 0])], [], [(0, ⟨25, 4, pre.length, pre.flatMap (fun x => [.int .i64 x.flow.lo, .int .i64 x.flow.hi, .int .i64 x.warm.lo, .int .i64 x.warm.hi])⟩)]⟩⟩) [.call ⟨[], [], [(0, ⟨25, 4, pre.length, pre.flatMap (fun x => [.int .i64 x.flow.lo, .int .i64 x.flow.hi, .int .i64 x.warm.lo, .int .i64 x.warm.hi])⟩)]⟩ 65 [.agg [.v (.int .i64 3), .v (.int .i64 p.flow.lo), .v (.int .i64 p.flow.hi), .v (.int .i64 p.warm.lo), .v (.int .i64 p.warm.hi), .v (.int .i64 p.heat.lo), .v (.int .i64 p.heat.hi), .v (.int .i64 p.share.lo), .v (.int .i64 p.share.hi)]] (.tup [.v (.iface 120 (.agg #[.int .i64 p.warm.lo, .int .i64 p.warm.hi, .int .i64 p.share.lo, .int .i64 p.share.hi])), .v (.bool true)])] S (by kernel_rfl) (by kernel_rfl) (by kernel_rfl) ⟨⟨enters_65, fun _ W _ _ => pointOf3_ok (MPoint.mk 3 (MSpan.mk p.flow.lo p.flow.hi) (MSpan.mk p.warm.lo p.warm.hi) (MSpan.mk p.heat.lo p.heat.hi) (MSpan.mk p.share.lo p.share.hi)) W⟩, trivial⟩ ?_
  clear S; intro E a w S
  refine wp_seq ?_
  obtain ⟨r1, e1, h⟩ := bind_some h
  refine sym_seq lay_ok mixed [(4, { res := .v (.bool r1), pf := some (96, [.agg [.v (.int .i64 p.warm.lo), .v (.int .i64 p.warm.hi), .v (.int .i64 p.share.lo), .v (.int .i64 p.share.hi)]]) })] [0, 5, 18] [1000] (⟨[(0, .own 1000 0), (5, .v (.iface 120 (.agg #[.int .i64 p.warm.lo, .int .i64 p.warm.hi, .int .i64 p.share.lo, .int .i64 p.share.hi]))), (18, .v (.bool (!r1)))], ⟨[(1000, .blk 91 [.v (.int .i64 c.flow.lo), .v (.int .i64 c.flow.hi), .v (.int .i64 c.warm.lo), .v (.int .i64 c.warm.hi), .gr 0])], [], [(0, ⟨25, 4, pre.length, pre.flatMap (fun x => [.int .i64 x.flow.lo, .int .i64 x.flow.hi, .int .i64 x.warm.lo, .int .i64 x.warm.hi])⟩)]⟩⟩) [.call ⟨[], [], [(0, ⟨25, 4, pre.length, pre.flatMap (fun x => [.int .i64 x.flow.lo, .int .i64 x.flow.hi, .int .i64 x.warm.lo, .int .i64 x.warm.hi])⟩)]⟩ 96 [.agg [.v (.int .i64 p.warm.lo), .v (.int .i64 p.warm.hi), .v (.int .i64 p.share.lo), .v (.int .i64 p.share.hi)]] (.v (.bool r1)), .ent (.call ⟨.invoke (.tmp 15) "wormtub/stream.valid", #[], #[]⟩) [.v (.iface 120 (.agg #[.int .i64 p.warm.lo, .int .i64 p.warm.hi, .int .i64 p.share.lo, .int .i64 p.share.hi]))] 96 [.agg [.v (.int .i64 p.warm.lo), .v (.int .i64 p.warm.hi), .v (.int .i64 p.share.lo), .v (.int .i64 p.share.hi)]]] S (by kernel_rfl) (by kernel_rfl) (by kernel_rfl) ⟨⟨enters_96, fun _ W _ hm => stream_air_valid_ok (MAir.mk (MSpan.mk p.warm.lo p.warm.hi) (MSpan.mk p.share.lo p.share.hi)) W r1 e1⟩, ent_invoke (fun _ => rfl) (fun _ => by kernel_rfl) enters_96, trivial⟩ ?_
  clear S; intro E a w S
  refine sym_if_last (b := (!r1)) S rfl (fun hb1 => ?_) (fun hb1 => ?_)
  · have h := bif_t hb1 h
    refine sym_seq lay_ok mixed [] [4] [1000] (⟨[(4, .v (.int .i64 1))], ⟨[(1000, .blk 91 [.v (.int .i64 c.flow.lo), .v (.int .i64 c.flow.hi), .v (.int .i64 c.warm.lo), .v (.int .i64 c.warm.hi), .gr 0])], [], [(0, ⟨25, 4, pre.length, pre.flatMap (fun x => [.int .i64 x.flow.lo, .int .i64 x.flow.hi, .int .i64 x.warm.lo, .int .i64 x.warm.hi])⟩)]⟩⟩) [] S (by kernel_rfl) (by kernel_rfl) (by kernel_rfl) trivial ?_
    clear S; intro E a w S
    refine wp_ret ?_
    refine out_then_ret ?_
    have h := Option.some.inj h
    subst h
    exact sym_ret lay_ok [.v (.int .i64 1)] (by kernel_rfl) rfl S ⟨rfl, pass_end S rfl rfl rfl rfl rfl⟩
  · have h := bif_f hb1 h
    refine wp_skip ?_
    refine out_then_normal ?_
    obtain ⟨r2, e2, h⟩ := bind_some h
    refine sym_seq lay_ok mixed [(6, { px := some (.v (.func (.method "wormtub/stream.behind") #[.iface 120 (.agg #[.int .i64 p.warm.lo, .int .i64 p.warm.hi, .int .i64 p.share.lo, .int .i64 p.share.hi])] #[])) }), (7, { px := some (.v (.func (.method "wormtub/stream.behind") #[.iface 120 (.agg #[.int .i64 p.warm.lo, .int .i64 p.warm.hi, .int .i64 p.share.lo, .int .i64 p.share.hi])] #[])) }), (9, { res := .agg [.v (.int .i64 r2.flow.lo), .v (.int .i64 r2.flow.hi), .v (.int .i64 r2.warm.lo), .v (.int .i64 r2.warm.hi)], pf := some (95, [.agg [.v (.int .i64 p.warm.lo), .v (.int .i64 p.warm.hi), .v (.int .i64 p.share.lo), .v (.int .i64 p.share.hi)], .agg [.v (.int .i64 c.flow.lo), .v (.int .i64 c.flow.hi), .v (.int .i64 c.warm.lo), .v (.int .i64 c.warm.hi)]]) })] [0] [1000] (⟨[(0, .own 1000 0)], ⟨[(1000, .blk 91 [.v (.int .i64 r2.flow.lo), .v (.int .i64 r2.flow.hi), .v (.int .i64 r2.warm.lo), .v (.int .i64 r2.warm.hi), .gr 0])], [], [(0, ⟨25, 4, pre.length, pre.flatMap (fun x => [.int .i64 x.flow.lo, .int .i64 x.flow.hi, .int .i64 x.warm.lo, .int .i64 x.warm.hi])⟩)]⟩⟩) [.pure ⟨[], [], [(0, ⟨25, 4, pre.length, pre.flatMap (fun x => [.int .i64 x.flow.lo, .int .i64 x.flow.hi, .int .i64 x.warm.lo, .int .i64 x.warm.hi])⟩)]⟩ (.makeFunc (.method "wormtub/stream.behind") #[.tmp 20] #[]) [.v (.iface 120 (.agg #[.int .i64 p.warm.lo, .int .i64 p.warm.hi, .int .i64 p.share.lo, .int .i64 p.share.hi]))] (.v (.func (.method "wormtub/stream.behind") #[.iface 120 (.agg #[.int .i64 p.warm.lo, .int .i64 p.warm.hi, .int .i64 p.share.lo, .int .i64 p.share.hi])] #[])), .pure ⟨[], [], [(0, ⟨25, 4, pre.length, pre.flatMap (fun x => [.int .i64 x.flow.lo, .int .i64 x.flow.hi, .int .i64 x.warm.lo, .int .i64 x.warm.hi])⟩)]⟩ (.nilCheck (.tmp 25)) [.v (.func (.method "wormtub/stream.behind") #[.iface 120 (.agg #[.int .i64 p.warm.lo, .int .i64 p.warm.hi, .int .i64 p.share.lo, .int .i64 p.share.hi])] #[])] (.v (.func (.method "wormtub/stream.behind") #[.iface 120 (.agg #[.int .i64 p.warm.lo, .int .i64 p.warm.hi, .int .i64 p.share.lo, .int .i64 p.share.hi])] #[])), .call ⟨[], [], [(0, ⟨25, 4, pre.length, pre.flatMap (fun x => [.int .i64 x.flow.lo, .int .i64 x.flow.hi, .int .i64 x.warm.lo, .int .i64 x.warm.hi])⟩)]⟩ 95 [.agg [.v (.int .i64 p.warm.lo), .v (.int .i64 p.warm.hi), .v (.int .i64 p.share.lo), .v (.int .i64 p.share.hi)], .agg [.v (.int .i64 c.flow.lo), .v (.int .i64 c.flow.hi), .v (.int .i64 c.warm.lo), .v (.int .i64 c.warm.hi)]] (.agg [.v (.int .i64 r2.flow.lo), .v (.int .i64 r2.flow.hi), .v (.int .i64 r2.warm.lo), .v (.int .i64 r2.warm.hi)]), .ent (.call ⟨.invoke (.tmp 27) "wormtub/stream.behind", #[.tmp 24], #[25]⟩) [.v (.iface 120 (.agg #[.int .i64 p.warm.lo, .int .i64 p.warm.hi, .int .i64 p.share.lo, .int .i64 p.share.hi])), .agg [.v (.int .i64 c.flow.lo), .v (.int .i64 c.flow.hi), .v (.int .i64 c.warm.lo), .v (.int .i64 c.warm.hi)]] 95 [.agg [.v (.int .i64 p.warm.lo), .v (.int .i64 p.warm.hi), .v (.int .i64 p.share.lo), .v (.int .i64 p.share.hi)], .agg [.v (.int .i64 c.flow.lo), .v (.int .i64 c.flow.hi), .v (.int .i64 c.warm.lo), .v (.int .i64 c.warm.hi)]]] S (by kernel_rfl) (by kernel_rfl) (by kernel_rfl) ⟨pure_method, pure_nilMethod (fun _ => by kernel_rfl), ⟨enters_95, fun _ W _ hm => stream_air_behind_ok (MAir.mk (MSpan.mk p.warm.lo p.warm.hi) (MSpan.mk p.share.lo p.share.hi)) (MWater.mk (MSpan.mk c.flow.lo c.flow.hi) (MSpan.mk c.warm.lo c.warm.hi)) W r2 e2⟩, ent_invoke (fun _ => rfl) (fun _ => by kernel_rfl) enters_95, trivial⟩ ?_
    clear S; intro E a w S
    refine wp_seq ?_
    refine sym_seq lay_ok mixed [] [0, 37] [1000] (⟨[(0, .own 1000 0), (37, .v (.bool (decide (r2.flow.lo < 1))))], ⟨[(1000, .blk 91 [.v (.int .i64 r2.flow.lo), .v (.int .i64 r2.flow.hi), .v (.int .i64 r2.warm.lo), .v (.int .i64 r2.warm.hi), .gr 0])], [], [(0, ⟨25, 4, pre.length, pre.flatMap (fun x => [.int .i64 x.flow.lo, .int .i64 x.flow.hi, .int .i64 x.warm.lo, .int .i64 x.warm.hi])⟩)]⟩⟩) [] S (by kernel_rfl) (by kernel_rfl) (by kernel_rfl) trivial ?_
    clear S; intro E a w S
    refine sym_if_last (b := decide (r2.flow.lo < 1)) S rfl (fun hb2 => ?_) (fun hb2 => ?_)
    · have h := bif_t hb2 h
      refine sym_seq lay_ok mixed [] [4] [1000] (⟨[(4, .v (.int .i64 10))], ⟨[(1000, .blk 91 [.v (.int .i64 r2.flow.lo), .v (.int .i64 r2.flow.hi), .v (.int .i64 r2.warm.lo), .v (.int .i64 r2.warm.hi), .gr 0])], [], [(0, ⟨25, 4, pre.length, pre.flatMap (fun x => [.int .i64 x.flow.lo, .int .i64 x.flow.hi, .int .i64 x.warm.lo, .int .i64 x.warm.hi])⟩)]⟩⟩) [] S (by kernel_rfl) (by kernel_rfl) (by kernel_rfl) trivial ?_
      clear S; intro E a w S
      refine wp_ret ?_
      refine out_then_ret ?_
      have h := Option.some.inj h
      subst h
      exact sym_ret lay_ok [.v (.int .i64 10)] (by kernel_rfl) rfl S ⟨rfl, pass_end S rfl rfl rfl rfl rfl⟩
    · have h := bif_f hb2 h
      refine wp_skip ?_
      refine out_then_normal ?_
      refine wp_seq ?_
      refine sym_seq lay_ok mixed [(8, { og := true }), (9, { og := true }), (10, { og := true }), (11, { og := true }), (12, { og := true }), (13, { og := true }), (14, { og := true }), (15, { pk := true })] [0, 53] [1000] (⟨[(0, .own 1000 0), (53, .v (.bool (decide (1073741824 < r2.flow.hi) || decide (100000 < r2.warm.hi))))], ⟨[(1000, .blk 91 [.v (.int .i64 r2.flow.lo), .v (.int .i64 r2.flow.hi), .v (.int .i64 r2.warm.lo), .v (.int .i64 r2.warm.hi), .gr 0])], [], [(0, ⟨25, 4, pre.length, pre.flatMap (fun x => [.int .i64 x.flow.lo, .int .i64 x.flow.hi, .int .i64 x.warm.lo, .int .i64 x.warm.hi])⟩)]⟩⟩) [.imp (!(decide (1073741824 < r2.flow.hi))) (!(decide (1073741824 < r2.flow.hi))), .imp (!(decide (1073741824 < r2.flow.hi))) (!(decide (1073741824 < r2.flow.hi))), .imp (!(decide (1073741824 < r2.flow.hi))) (!(decide (1073741824 < r2.flow.hi))), .imp (!(decide (1073741824 < r2.flow.hi))) (!(decide (1073741824 < r2.flow.hi))), .imp (!(decide (1073741824 < r2.flow.hi))) (!(decide (1073741824 < r2.flow.hi))), .imp (!(decide (1073741824 < r2.flow.hi))) (!(decide (1073741824 < r2.flow.hi))), .imp (!(decide (1073741824 < r2.flow.hi))) (!(decide (1073741824 < r2.flow.hi)))] S (by kernel_rfl) (by kernel_rfl) (by kernel_rfl) ⟨fun h => h, fun h => h, fun h => h, fun h => h, fun h => h, fun h => h, fun h => h, trivial⟩ ?_
      clear S; intro E a w S
      refine sym_if_last (b := (decide (1073741824 < r2.flow.hi) || decide (100000 < r2.warm.hi))) S rfl (fun hb3 => ?_) (fun hb3 => ?_)
      · have h := bif_t hb3 h
        refine sym_seq lay_ok mixed [] [4] [1000] (⟨[(4, .v (.int .i64 12))], ⟨[(1000, .blk 91 [.v (.int .i64 r2.flow.lo), .v (.int .i64 r2.flow.hi), .v (.int .i64 r2.warm.lo), .v (.int .i64 r2.warm.hi), .gr 0])], [], [(0, ⟨25, 4, pre.length, pre.flatMap (fun x => [.int .i64 x.flow.lo, .int .i64 x.flow.hi, .int .i64 x.warm.lo, .int .i64 x.warm.hi])⟩)]⟩⟩) [] S (by kernel_rfl) (by kernel_rfl) (by kernel_rfl) trivial ?_
        clear S; intro E a w S
        refine wp_ret ?_
        refine out_then_ret ?_
        have h := Option.some.inj h
        subst h
        exact sym_ret lay_ok [.v (.int .i64 12)] (by kernel_rfl) rfl S ⟨rfl, pass_end S rfl rfl rfl rfl rfl⟩
      · have h := bif_f hb3 h
        refine wp_skip ?_
        refine out_then_normal ?_
        obtain ⟨g1, h⟩ := grd_some h
        refine wp_seq ?_
        refine sym_region_cutP lay_ok mixed [(9, { g := 1 })] 10 [54, 58, 63] [1000, 1] (⟨[(54, .own 1000 0), (58, .gr 0), (63, .row 1 0 1 1)], ⟨[(1000, .blk 91 [.v (.int .i64 r2.flow.lo), .v (.int .i64 r2.flow.hi), .v (.int .i64 r2.warm.lo), .v (.int .i64 r2.warm.hi), .gr 0]), (1, .blk 25 [.v (.int .i64 r2.flow.lo), .v (.int .i64 r2.flow.hi), .v (.int .i64 r2.warm.lo), .v (.int .i64 r2.warm.hi)])], [], [(0, ⟨25, 4, pre.length, pre.flatMap (fun x => [.int .i64 x.flow.lo, .int .i64 x.flow.hi, .int .i64 x.warm.lo, .int .i64 x.warm.hi])⟩)]⟩⟩) [] S (by kernel_rfl) (by kernel_rfl) (by kernel_rfl) trivial (by intro c d v a w h; cases d <;> exact h) ?_
        clear S; intro E a w S
        refine sym_append lay_ok rfl (.tmp 58) (.tmp 63) 29 rfl rfl S 0 1 0 1 1 25 [.v (.int .i64 r2.flow.lo), .v (.int .i64 r2.flow.hi), .v (.int .i64 r2.warm.lo), .v (.int .i64 r2.warm.hi)] ⟨25, 4, pre.length, pre.flatMap (fun x => [.int .i64 x.flow.lo, .int .i64 x.flow.hi, .int .i64 x.warm.lo, .int .i64 x.warm.hi])⟩ ⟨.str [(0, 2, true), (2, 2, true)], 4, [.int .i64 0, .int .i64 0, .int .i64 0, .int .i64 0], true, 32⟩ ⟨.sli 25 4, 1, [.slice none 0 0], false, 24⟩ rfl rfl rfl rfl rfl rfl rfl rfl (show 0 < 4 by decide) rfl rfl (fun e he => by cases he; exact Nat.lt_of_succ_le (Nat.le_of_ble_eq_true rfl)) ⟨25, 4, (pre ++ [(MWater.mk (MSpan.mk r2.flow.lo r2.flow.hi) (MSpan.mk r2.warm.lo r2.warm.hi))]).length, (pre ++ [(MWater.mk (MSpan.mk r2.flow.lo r2.flow.hi) (MSpan.mk r2.warm.lo r2.warm.hi))]).flatMap (fun x => [.int .i64 x.flow.lo, .int .i64 x.flow.hi, .int .i64 x.warm.lo, .int .i64 x.warm.hi])⟩ rfl rfl (by simp) (fun E => by simp [SV.vals, SV.val]) (Nat.le_trans g1 (by decide)) (show (pre.length + 1) * 32 ≤ 140737488355328 by have := g1; omega) rfl ?_
        clear S; intro v0 E a w S; have S := St.pickG S [54, 63, 64] [1000, 1] [0] (⟨[(54, .own 1000 0), (63, .row 1 0 1 1), (64, .gr 0)], ⟨[(1000, .blk 91 [.v (.int .i64 r2.flow.lo), .v (.int .i64 r2.flow.hi), .v (.int .i64 r2.warm.lo), .v (.int .i64 r2.warm.hi), .v (v0)]), (1, .blk 25 [.v (.int .i64 r2.flow.lo), .v (.int .i64 r2.flow.hi), .v (.int .i64 r2.warm.lo), .v (.int .i64 r2.warm.hi)])], [], [(0, ⟨25, 4, (pre ++ [(MWater.mk (MSpan.mk r2.flow.lo r2.flow.hi) (MSpan.mk r2.warm.lo r2.warm.hi))]).length, (pre ++ [(MWater.mk (MSpan.mk r2.flow.lo r2.flow.hi) (MSpan.mk r2.warm.lo r2.warm.hi))]).flatMap (fun x => [.int .i64 x.flow.lo, .int .i64 x.flow.hi, .int .i64 x.warm.lo, .int .i64 x.warm.hi])⟩)]⟩⟩) (by kernel_rfl)
        refine sym_runP lay_ok [] 11 3 [] [1000] (⟨[], ⟨[(1000, .blk 91 [.v (.int .i64 r2.flow.lo), .v (.int .i64 r2.flow.hi), .v (.int .i64 r2.warm.lo), .v (.int .i64 r2.warm.hi), .gr 0])], [], [(0, ⟨25, 4, (pre ++ [(MWater.mk (MSpan.mk r2.flow.lo r2.flow.hi) (MSpan.mk r2.warm.lo r2.warm.hi))]).length, (pre ++ [(MWater.mk (MSpan.mk r2.flow.lo r2.flow.hi) (MSpan.mk r2.warm.lo r2.warm.hi))]).flatMap (fun x => [.int .i64 x.flow.lo, .int .i64 x.flow.hi, .int .i64 x.warm.lo, .int .i64 x.warm.hi])⟩)]⟩⟩) [] S (by kernel_rfl) (by kernel_rfl) trivial ?_
        clear S; intro E a w S
        refine sym_done rfl ?_
        refine out_then_normal ?_
        have S := St.pickG S [] [1000] [0] (⟨[], ⟨[(1000, .blk 91 [.v (.int .i64 r2.flow.lo), .v (.int .i64 r2.flow.hi), .v (.int .i64 r2.warm.lo), .v (.int .i64 r2.warm.hi), .gr 0])], [], [(0, ⟨25, 4, (pre ++ [(MWater.mk (MSpan.mk r2.flow.lo r2.flow.hi) (MSpan.mk r2.warm.lo r2.warm.hi))]).length, (pre ++ [(MWater.mk (MSpan.mk r2.flow.lo r2.flow.hi) (MSpan.mk r2.warm.lo r2.warm.hi))]).flatMap (fun x => [.int .i64 x.flow.lo, .int .i64 x.flow.hi, .int .i64 x.warm.lo, .int .i64 x.warm.hi])⟩)]⟩⟩) (by kernel_rfl)
        refine sym_seq lay_ok mixed [] [4] [1000] (⟨[(4, .v (.int .i64 0))], ⟨[(1000, .blk 91 [.v (.int .i64 r2.flow.lo), .v (.int .i64 r2.flow.hi), .v (.int .i64 r2.warm.lo), .v (.int .i64 r2.warm.hi), .gr 0])], [], [(0, ⟨25, 4, (pre ++ [(MWater.mk (MSpan.mk r2.flow.lo r2.flow.hi) (MSpan.mk r2.warm.lo r2.warm.hi))]).length, (pre ++ [(MWater.mk (MSpan.mk r2.flow.lo r2.flow.hi) (MSpan.mk r2.warm.lo r2.warm.hi))]).flatMap (fun x => [.int .i64 x.flow.lo, .int .i64 x.flow.hi, .int .i64 x.warm.lo, .int .i64 x.warm.hi])⟩)]⟩⟩) [] S (by kernel_rfl) (by kernel_rfl) (by kernel_rfl) trivial ?_
        clear S; intro E a w S
        refine wp_ret ?_
        have h := Option.some.inj h
        subst h
        exact sym_ret lay_ok [.v (.int .i64 0)] (by kernel_rfl) rfl S ⟨rfl, pass_end S rfl rfl rfl rfl rfl⟩
def passX (c : MWater) (pre : List MWater) (p : MPoint) : Option (MWater × List MWater × Int) :=
(pointOfX (MPoint.mk p.kind (MSpan.mk p.flow.lo p.flow.hi) (MSpan.mk p.warm.lo p.warm.hi) (MSpan.mk p.heat.lo p.heat.hi) (MSpan.mk p.share.lo p.share.hi))).bind fun (r1 : Unit) =>
some ((MWater.mk (MSpan.mk c.flow.lo c.flow.hi) (MSpan.mk c.warm.lo c.warm.hi)), pre, 1)
set_option maxRecDepth 100000 in
set_option maxHeartbeats 4000000 in
theorem passX_ok (c : MWater) (pre : List MWater) (p : MPoint) (W : World) (b : Nat) (V : Value) (hB : Blk W b 91 #[.int .i64 c.flow.lo, .int .i64 c.flow.hi, .int .i64 c.warm.lo, .int .i64 c.warm.hi, V]) (hG : GrAt W 0 (wGQ pre) V) (hV : V.ownBlock ≠ some b) (res : MWater × List MWater × Int) (h : passX c pre p = some res) :
    Calls Go.Proofs.Try.prog 54 #[.pointer (some ⟨b, 0, none⟩), .agg #[.int .i64 p.kind, .int .i64 p.flow.lo, .int .i64 p.flow.hi, .int .i64 p.warm.lo, .int .i64 p.warm.hi, .int .i64 p.heat.lo, .int .i64 p.heat.hi, .int .i64 p.share.lo, .int .i64 p.share.hi]] W fun e w' => e = .returned (.int .i64 res.2.2) ∧ Passed b V res.1 res.2.1 W w' := by
  refine sym_closure_g (f := 54) (fn := Go.Proofs.Try.f54) (c := Go.Proofs.Try.f54.body.get rfl) Go.Proofs.Try.func54 rfl [.own 1000 0, .agg [.v (.int .i64 p.kind), .v (.int .i64 p.flow.lo), .v (.int .i64 p.flow.hi), .v (.int .i64 p.warm.lo), .v (.int .i64 p.warm.hi), .v (.int .i64 p.heat.lo), .v (.int .i64 p.heat.hi), .v (.int .i64 p.share.lo), .v (.int .i64 p.share.hi)]] [⟨1000, b, 91, [.v (.int .i64 c.flow.lo), .v (.int .i64 c.flow.hi), .v (.int .i64 c.warm.lo), .v (.int .i64 c.warm.hi), .gr 0]⟩] [(1000, .blk 91 [.v (.int .i64 c.flow.lo), .v (.int .i64 c.flow.hi), .v (.int .i64 c.warm.lo), .v (.int .i64 c.warm.hi), .gr 0])] rfl ⟨25, 4, pre.length, pre.flatMap (fun x => [.int .i64 x.flow.lo, .int .i64 x.flow.hi, .int .i64 x.warm.lo, .int .i64 x.warm.hi])⟩ V (by kernel_rfl) ⟨hB, trivial⟩ ⟨trivial, trivial⟩ hG (fun k hk => ⟨fun (e : k = b) => hV (e ▸ hk), trivial⟩) fun E a w S => ?_
  rw [passX] at h
  refine sym_seq lay_ok mixed [(0, { g := 0 })] [0, 3] [1000, 0] (⟨[(0, .own 1000 0), (3, .own 0 0)], ⟨[(1000, .blk 91 [.v (.int .i64 c.flow.lo), .v (.int .i64 c.flow.hi), .v (.int .i64 c.warm.lo), .v (.int .i64 c.warm.hi), .gr 0]), (0, .blk 47 [.v (.int .i64 p.kind), .v (.int .i64 p.flow.lo), .v (.int .i64 p.flow.hi), .v (.int .i64 p.warm.lo), .v (.int .i64 p.warm.hi), .v (.int .i64 p.heat.lo), .v (.int .i64 p.heat.hi), .v (.int .i64 p.share.lo), .v (.int .i64 p.share.hi)])], [], [(0, ⟨25, 4, pre.length, pre.flatMap (fun x => [.int .i64 x.flow.lo, .int .i64 x.flow.hi, .int .i64 x.warm.lo, .int .i64 x.warm.hi])⟩)]⟩⟩) [] S (by kernel_rfl) (by kernel_rfl) (by kernel_rfl) trivial ?_
  clear S; intro E a w S
  obtain ⟨r1, e1, h⟩ := bind_some h
  refine sym_seq lay_ok mixed [(1, { res := .tup [.v (.nilIface), .v (.bool false)] })] [0, 5, 6] [1000] (⟨[(0, .own 1000 0), (5, .v (.nilIface)), (6, .v (.bool false))], ⟨[(1000, .blk 91 [.v (.int .i64 c.flow.lo), .v (.int .i64 c.flow.hi), .v (.int .i64 c.warm.lo), .v (.int .i64 c.warm.hi), .gr 0])], [], [(0, ⟨25, 4, pre.length, pre.flatMap (fun x => [.int .i64 x.flow.lo, .int .i64 x.flow.hi, .int .i64 x.warm.lo, .int .i64 x.warm.hi])⟩)]⟩⟩) [.call ⟨[], [], [(0, ⟨25, 4, pre.length, pre.flatMap (fun x => [.int .i64 x.flow.lo, .int .i64 x.flow.hi, .int .i64 x.warm.lo, .int .i64 x.warm.hi])⟩)]⟩ 65 [.agg [.v (.int .i64 p.kind), .v (.int .i64 p.flow.lo), .v (.int .i64 p.flow.hi), .v (.int .i64 p.warm.lo), .v (.int .i64 p.warm.hi), .v (.int .i64 p.heat.lo), .v (.int .i64 p.heat.hi), .v (.int .i64 p.share.lo), .v (.int .i64 p.share.hi)]] (.tup [.v (.nilIface), .v (.bool false)])] S (by kernel_rfl) (by kernel_rfl) (by kernel_rfl) ⟨⟨enters_65, fun _ W _ _ => pointOfX_ok (MPoint.mk p.kind (MSpan.mk p.flow.lo p.flow.hi) (MSpan.mk p.warm.lo p.warm.hi) (MSpan.mk p.heat.lo p.heat.hi) (MSpan.mk p.share.lo p.share.hi)) W r1 e1⟩, trivial⟩ ?_
  clear S; intro E a w S
  refine wp_seq ?_
  refine sym_seq lay_ok mixed [] [0, 5, 18] [1000] (⟨[(0, .own 1000 0), (5, .v (.nilIface)), (18, .v (.bool true))], ⟨[(1000, .blk 91 [.v (.int .i64 c.flow.lo), .v (.int .i64 c.flow.hi), .v (.int .i64 c.warm.lo), .v (.int .i64 c.warm.hi), .gr 0])], [], [(0, ⟨25, 4, pre.length, pre.flatMap (fun x => [.int .i64 x.flow.lo, .int .i64 x.flow.hi, .int .i64 x.warm.lo, .int .i64 x.warm.hi])⟩)]⟩⟩) [] S (by kernel_rfl) (by kernel_rfl) (by kernel_rfl) trivial ?_
  clear S; intro E a w S
  refine sym_if_last (b := true) S rfl (fun _ => ?_) (fun hb => absurd hb (by decide))
  refine sym_seq lay_ok mixed [] [4] [1000] (⟨[(4, .v (.int .i64 1))], ⟨[(1000, .blk 91 [.v (.int .i64 c.flow.lo), .v (.int .i64 c.flow.hi), .v (.int .i64 c.warm.lo), .v (.int .i64 c.warm.hi), .gr 0])], [], [(0, ⟨25, 4, pre.length, pre.flatMap (fun x => [.int .i64 x.flow.lo, .int .i64 x.flow.hi, .int .i64 x.warm.lo, .int .i64 x.warm.hi])⟩)]⟩⟩) [] S (by kernel_rfl) (by kernel_rfl) (by kernel_rfl) trivial ?_
  clear S; intro E a w S
  refine wp_ret ?_
  refine out_then_ret ?_
  have h := Option.some.inj h
  subst h
  exact sym_ret lay_ok [.v (.int .i64 1)] (by kernel_rfl) rfl S ⟨rfl, pass_end S rfl rfl rfl rfl rfl⟩
end Go.Proofs.Ytlcccomdijdkaaa
