/- Models and walks, printed by program. -/
import Derived.Test.YtlcccomdijdkaaaSyTm
namespace Go.Proofs.Ytlcccomdijdkaaa
open Go.RowKit Go.Proofs.Try

def stream_Room_R (l : List MPoint) : List (Nat × Q) := [(0, ⟨l.length, 9, fun i => [.int .i64 ((l.getD i default).kind), .int .i64 (((l.getD i default).flow).lo), .int .i64 (((l.getD i default).flow).hi), .int .i64 (((l.getD i default).warm).lo), .int .i64 (((l.getD i default).warm).hi), .int .i64 (((l.getD i default).heat).lo), .int .i64 (((l.getD i default).heat).hi), .int .i64 (((l.getD i default).share).lo), .int .i64 (((l.getD i default).share).hi)]⟩)]
def stream_Room (fuel : Nat) (first : MWater) (l : List MPoint) (at' : Int) (limit : Int) : Option (Int × Int) :=
(stream_validWater (MWater.mk (MSpan.mk first.flow.lo first.flow.hi) (MSpan.mk first.warm.lo first.warm.hi))).bind fun (r1 : Bool) =>
(bif (!r1) then
(some (0, 1))
else
((stream_validLimit limit).bind fun (r2 : Bool) =>
(bif (((!r2) || decide (at' < 0)) || decide (((l.length : Nat) : Int) < at')) then
(some (0, 2))
else
((stream_Flow (MWater.mk (MSpan.mk first.flow.lo first.flow.hi) (MSpan.mk first.warm.lo first.warm.hi)) l).bind fun (r3 : (List MWater × Int × Int)) =>
(bif (r3.2.2 != 0) then
(some (0, r3.2.2))
else
((searchRoom fuel (MWater.mk (MSpan.mk first.flow.lo first.flow.hi) (MSpan.mk first.warm.lo first.warm.hi)) l at' limit 1099511627777).bind fun (r9 : Int) =>
(bif (r9 == 0) then
(some (0, 11))
else
(grd (InI64 (r9 - 1)) <|
some ((r9 - 1), 0)))))))))
set_option maxRecDepth 100000 in
set_option maxHeartbeats 4000000 in
theorem stream_Room_ok (fuel : Nat) (first : MWater) (l : List MPoint) (at' : Int) (limit : Int) (W : World) (A0 : Option Addr) (c0 : Nat) (h0 : l.length ≤ c0) (s0 : SlAt W A0 l.length 9 fun i => [.int .i64 ((l.getD i default).kind), .int .i64 (((l.getD i default).flow).lo), .int .i64 (((l.getD i default).flow).hi), .int .i64 (((l.getD i default).warm).lo), .int .i64 (((l.getD i default).warm).hi), .int .i64 (((l.getD i default).heat).lo), .int .i64 (((l.getD i default).heat).hi), .int .i64 (((l.getD i default).share).lo), .int .i64 (((l.getD i default).share).hi)]) (res : Int × Int) (h : stream_Room fuel first l at' limit = some res) :
    Calls Go.Proofs.Try.prog 19 #[.agg #[.int .i64 first.flow.lo, .int .i64 first.flow.hi, .int .i64 first.warm.lo, .int .i64 first.warm.hi], .slice A0 l.length c0, .int .i64 at', .int .i64 limit] W fun e w' => e = .returned (.tuple #[.int .i64 res.1, .int .i64 res.2]) ∧ Below W.heap.size W w' := by
  refine sym_call (f := 19) (fn := Go.Proofs.Try.f19) (c := Go.Proofs.Try.f19.body.get rfl) Go.Proofs.Try.func19 rfl [.agg [.v (.int .i64 first.flow.lo), .v (.int .i64 first.flow.hi), .v (.int .i64 first.warm.lo), .v (.int .i64 first.warm.hi)], .sl 0, .v (.int .i64 at'), .v (.int .i64 limit)] (stream_Room_R l) [] (envOf [(0, ⟨A0, l.length, c0, 9⟩)]) allR (fun _ _ => rfl) (by kernel_rfl) (envOf_one trivial) ⟨s0.rd h0, trivial⟩ (AllRR.all _ _) trivial fun E a w S => ?_
  rw [stream_Room] at h
  refine sym_seq lay_ok mixed [(0, { g := 0 }), (1, { g := 1 }), (2, { g := 2 }), (3, { g := 3 })] [4, 5, 6, 7] [0, 1, 2, 3] (⟨[(4, .own 0 0), (5, .own 1 0), (6, .own 2 0), (7, .own 3 0)], ⟨[(0, .blk 25 [.v (.int .i64 first.flow.lo), .v (.int .i64 first.flow.hi), .v (.int .i64 first.warm.lo), .v (.int .i64 first.warm.hi)]), (1, .blk 26 [.sl 0]), (2, .blk 3 [.v (.int .i64 at')]), (3, .blk 3 [.v (.int .i64 limit)])], (stream_Room_R l), []⟩⟩) [] S (by kernel_rfl) (by kernel_rfl) (by kernel_rfl) trivial ?_
  clear S; intro E a w S
  refine wp_seq ?_
  obtain ⟨r1, e1, h⟩ := bind_some h
  refine sym_seq lay_ok mixed [(1, { res := .v (.bool r1) })] [4, 5, 6, 7, 18] [0, 1, 2, 3] (⟨[(4, .own 0 0), (5, .own 1 0), (6, .own 2 0), (7, .own 3 0), (18, .v (.bool (!r1)))], ⟨[(0, .blk 25 [.v (.int .i64 first.flow.lo), .v (.int .i64 first.flow.hi), .v (.int .i64 first.warm.lo), .v (.int .i64 first.warm.hi)]), (1, .blk 26 [.sl 0]), (2, .blk 3 [.v (.int .i64 at')]), (3, .blk 3 [.v (.int .i64 limit)])], (stream_Room_R l), []⟩⟩) [.call ⟨[], (stream_Room_R l), []⟩ 34 [.agg [.v (.int .i64 first.flow.lo), .v (.int .i64 first.flow.hi), .v (.int .i64 first.warm.lo), .v (.int .i64 first.warm.hi)]] (.v (.bool r1))] S (by kernel_rfl) (by kernel_rfl) (by kernel_rfl) ⟨⟨enters_34, fun _ W _ hm => stream_validWater_ok (MWater.mk (MSpan.mk first.flow.lo first.flow.hi) (MSpan.mk first.warm.lo first.warm.hi)) W r1 e1⟩, trivial⟩ ?_
  clear S; intro E a w S
  refine sym_if_last (b := (!r1)) S rfl (fun hb1 => ?_) (fun hb1 => ?_)
  · have h := bif_t hb1 h
    refine sym_seq lay_ok mixed [] [8, 9] [] (⟨[(8, .v (.int .i64 0)), (9, .v (.int .i64 1))], ⟨[], (stream_Room_R l), []⟩⟩) [] S (by kernel_rfl) (by kernel_rfl) (by kernel_rfl) trivial ?_
    clear S; intro E a w S
    refine wp_ret ?_
    refine out_then_ret ?_
    have h := Option.some.inj h
    subst h
    exact sym_ret lay_ok [.v (.int .i64 0), .v (.int .i64 1)] (by kernel_rfl) rfl S ⟨rfl, S.below rfl⟩
  · have h := bif_f hb1 h
    refine wp_skip ?_
    refine out_then_normal ?_
    refine wp_seq ?_
    obtain ⟨r2, e2, h⟩ := bind_some h
    refine sym_seq lay_ok mixed [(1, { res := .v (.bool r2) }), (4, { og := true }), (5, { og := true }), (6, { pk := true }), (8, { og := true }), (9, { og := true }), (10, { og := true }), (11, { og := true }), (12, { pk := true })] [4, 5, 6, 7, 31] [0, 1, 2, 3] (⟨[(4, .own 0 0), (5, .own 1 0), (6, .own 2 0), (7, .own 3 0), (31, .v (.bool (((!r2) || decide (at' < 0)) || decide (((l.length : Nat) : Int) < at'))))], ⟨[(0, .blk 25 [.v (.int .i64 first.flow.lo), .v (.int .i64 first.flow.hi), .v (.int .i64 first.warm.lo), .v (.int .i64 first.warm.hi)]), (1, .blk 26 [.sl 0]), (2, .blk 3 [.v (.int .i64 at')]), (3, .blk 3 [.v (.int .i64 limit)])], (stream_Room_R l), []⟩⟩) [.call ⟨[], (stream_Room_R l), []⟩ 38 [.v (.int .i64 limit)] (.v (.bool r2)), .imp (!(!r2)) (!(!r2)), .imp (!(!r2)) (!(!r2)), .imp (!((!r2) || decide (at' < 0))) (!((!r2) || decide (at' < 0))), .imp (!((!r2) || decide (at' < 0))) (!((!r2) || decide (at' < 0))), .imp (!((!r2) || decide (at' < 0))) (!((!r2) || decide (at' < 0))), .imp (!((!r2) || decide (at' < 0))) (!((!r2) || decide (at' < 0)))] S (by kernel_rfl) (by kernel_rfl) (by kernel_rfl) ⟨⟨enters_38, fun _ W _ hm => stream_validLimit_ok limit W r2 e2⟩, fun h => h, fun h => h, fun h => h, fun h => h, fun h => h, fun h => h, trivial⟩ ?_
    clear S; intro E a w S
    refine sym_if_last (b := (((!r2) || decide (at' < 0)) || decide (((l.length : Nat) : Int) < at'))) S rfl (fun hb2 => ?_) (fun hb2 => ?_)
    · have h := bif_t hb2 h
      refine sym_seq lay_ok mixed [] [8, 9] [] (⟨[(8, .v (.int .i64 0)), (9, .v (.int .i64 2))], ⟨[], (stream_Room_R l), []⟩⟩) [] S (by kernel_rfl) (by kernel_rfl) (by kernel_rfl) trivial ?_
      clear S; intro E a w S
      refine wp_ret ?_
      refine out_then_ret ?_
      have h := Option.some.inj h
      subst h
      exact sym_ret lay_ok [.v (.int .i64 0), .v (.int .i64 2)] (by kernel_rfl) rfl S ⟨rfl, S.below rfl⟩
    · have h := bif_f hb2 h
      refine wp_skip ?_
      refine out_then_normal ?_
      refine wp_seq ?_
      obtain ⟨r3, e3, h⟩ := bind_some h
      refine sym_seq lay_ok mixed [(2, { g := 4, res := .tup [.ltr 4 0, .v (.int .i64 r3.2.1), .v (.int .i64 r3.2.2)], hx := some (SlicesAre 0 [⟨r3.1.length, 4, fun i => [.int .i64 (((r3.1.getD i default).flow).lo), .int .i64 (((r3.1.getD i default).flow).hi), .int .i64 (((r3.1.getD i default).warm).lo), .int .i64 (((r3.1.getD i default).warm).hi)]⟩]) })] [4, 5, 6, 7, 12] [0, 1, 2, 3] (⟨[(4, .own 0 0), (5, .own 1 0), (6, .own 2 0), (7, .own 3 0), (12, .v (.int .i64 r3.2.2))], ⟨[(0, .blk 25 [.v (.int .i64 first.flow.lo), .v (.int .i64 first.flow.hi), .v (.int .i64 first.warm.lo), .v (.int .i64 first.warm.hi)]), (1, .blk 26 [.sl 0]), (2, .blk 3 [.v (.int .i64 at')]), (3, .blk 3 [.v (.int .i64 limit)])], (stream_Room_R l), []⟩⟩) [.callx ⟨[], (stream_Room_R l), []⟩ 4 13 [.agg [.v (.int .i64 first.flow.lo), .v (.int .i64 first.flow.hi), .v (.int .i64 first.warm.lo), .v (.int .i64 first.warm.hi)], .sl 0] (.tup [.ltr 4 0, .v (.int .i64 r3.2.1), .v (.int .i64 r3.2.2)]) (SlicesAre 0 [⟨r3.1.length, 4, fun i => [.int .i64 (((r3.1.getD i default).flow).lo), .int .i64 (((r3.1.getD i default).flow).hi), .int .i64 (((r3.1.getD i default).warm).lo), .int .i64 (((r3.1.getD i default).warm).hi)]⟩])] S (by kernel_rfl) (by kernel_rfl) (by kernel_rfl) ⟨⟨enters_13, fun E W _ hm => by obtain ⟨A0, c0, q0, l0, s0, _⟩ := Mem.sl hm (s := 0) rfl; simp only [SV.vals, SV.val, q0]; exact ((stream_Flow_ok (MWater.mk (MSpan.mk first.flow.lo first.flow.hi) (MSpan.mk first.warm.lo first.warm.hi)) l W A0 c0 l0 s0 r3 e3).mono fun e w' hx => by obtain ⟨v, h1, h2, h3, h4⟩ := hx; exact ⟨v, h1, h2, h3, h4.mono fun _ _ h => .inl h⟩)⟩, trivial⟩ ?_
      clear S; intro E a w S
      refine sym_seq lay_ok mixed [] [4, 5, 6, 7, 12, 40] [0, 1, 2, 3] (⟨[(4, .own 0 0), (5, .own 1 0), (6, .own 2 0), (7, .own 3 0), (12, .v (.int .i64 r3.2.2)), (40, .v (.bool (r3.2.2 != 0)))], ⟨[(0, .blk 25 [.v (.int .i64 first.flow.lo), .v (.int .i64 first.flow.hi), .v (.int .i64 first.warm.lo), .v (.int .i64 first.warm.hi)]), (1, .blk 26 [.sl 0]), (2, .blk 3 [.v (.int .i64 at')]), (3, .blk 3 [.v (.int .i64 limit)])], (stream_Room_R l), []⟩⟩) [] S (by kernel_rfl) (by kernel_rfl) (by kernel_rfl) trivial ?_
      clear S; intro E a w S
      refine sym_if_last (b := (r3.2.2 != 0)) S rfl (fun hb3 => ?_) (fun hb3 => ?_)
      · have h := bif_t hb3 h
        refine sym_seq lay_ok mixed [] [8, 9] [] (⟨[(8, .v (.int .i64 0)), (9, .v (.int .i64 r3.2.2))], ⟨[], (stream_Room_R l), []⟩⟩) [] S (by kernel_rfl) (by kernel_rfl) (by kernel_rfl) trivial ?_
        clear S; intro E a w S
        refine wp_ret ?_
        refine out_then_ret ?_
        have h := Option.some.inj h
        subst h
        exact sym_ret lay_ok [.v (.int .i64 0), .v (.int .i64 r3.2.2)] (by kernel_rfl) rfl S ⟨rfl, S.below rfl⟩
      · have h := bif_f hb3 h
        refine wp_skip ?_
        refine out_then_normal ?_
        refine sym_seq lay_ok mixed [(1, { g := 5 })] [4, 5, 6, 13] [0, 1, 2, 3, 5] (⟨[(4, .own 0 0), (5, .own 1 0), (6, .own 2 0), (13, .own 5 0)], ⟨[(0, .blk 25 [.v (.int .i64 first.flow.lo), .v (.int .i64 first.flow.hi), .v (.int .i64 first.warm.lo), .v (.int .i64 first.warm.hi)]), (1, .blk 26 [.sl 0]), (2, .blk 3 [.v (.int .i64 at')]), (3, .blk 3 [.v (.int .i64 limit)]), (5, .blk 50 [.fn 40 [.own 3 0]])], (stream_Room_R l), []⟩⟩) [] S (by kernel_rfl) (by kernel_rfl) (by kernel_rfl) trivial ?_
        clear S; intro E a w S
        refine sym_seq lay_ok mixed [] [14] [0, 1, 2, 3, 5] (⟨[(14, .fn 41 [.own 0 0, .own 1 0, .own 2 0, .own 5 0])], ⟨[(0, .blk 25 [.v (.int .i64 first.flow.lo), .v (.int .i64 first.flow.hi), .v (.int .i64 first.warm.lo), .v (.int .i64 first.warm.hi)]), (1, .blk 26 [.sl 0]), (2, .blk 3 [.v (.int .i64 at')]), (3, .blk 3 [.v (.int .i64 limit)]), (5, .blk 50 [.fn 40 [.own 3 0]])], (stream_Room_R l), []⟩⟩) [] S (by kernel_rfl) (by kernel_rfl) (by kernel_rfl) trivial ?_
        clear S; intro E a w S
        obtain ⟨r9, e9, h⟩ := bind_some h
        refine wp_seq ((wpIn_wide (n := 0)).1 (sym_openI (ro := none) ?_))
        refine sym_runI lay_ok [] 0 1 (⟨[(44, .fn 41 [.own 0 0, .own 1 0, .own 2 0, .own 5 0]), (14, .fn 41 [.own 0 0, .own 1 0, .own 2 0, .own 5 0])], ⟨[(0, .blk 25 [.v (.int .i64 first.flow.lo), .v (.int .i64 first.flow.hi), .v (.int .i64 first.warm.lo), .v (.int .i64 first.warm.hi)]), (1, .blk 26 [.sl 0]), (2, .blk 3 [.v (.int .i64 at')]), (3, .blk 3 [.v (.int .i64 limit)]), (5, .blk 50 [.fn 40 [.own 3 0]])], (stream_Room_R l), []⟩⟩) [] S (by kernel_rfl) (by kernel_rfl) (by kernel_rfl) trivial ?_
        clear S; intro E a w S
        have hrd := S.mem.rd 0 _ rfl
        have n24 : E.ρ 2 ≠ E.ρ 3 := fun e => absurd (S.sep.inj _ _ _ _ _ _ (rfl : look (⟨[(44, .fn 41 [.own 0 0, .own 1 0, .own 2 0, .own 5 0]), (14, .fn 41 [.own 0 0, .own 1 0, .own 2 0, .own 5 0])], ⟨[(0, .blk 25 [.v (.int .i64 first.flow.lo), .v (.int .i64 first.flow.hi), .v (.int .i64 first.warm.lo), .v (.int .i64 first.warm.hi)]), (1, .blk 26 [.sl 0]), (2, .blk 3 [.v (.int .i64 at')]), (3, .blk 3 [.v (.int .i64 limit)]), (5, .blk 50 [.fn 40 [.own 3 0]])], (stream_Room_R l), []⟩⟩ : SState).m.blks 2 = _) rfl e) (by decide)
        have hap : ∀ k, Apart W.heap.size allR (look (⟨[(44, .fn 41 [.own 0 0, .own 1 0, .own 2 0, .own 5 0]), (14, .fn 41 [.own 0 0, .own 1 0, .own 2 0, .own 5 0])], ⟨[(0, .blk 25 [.v (.int .i64 first.flow.lo), .v (.int .i64 first.flow.hi), .v (.int .i64 first.warm.lo), .v (.int .i64 first.warm.hi)]), (1, .blk 26 [.sl 0]), (2, .blk 3 [.v (.int .i64 at')]), (3, .blk 3 [.v (.int .i64 limit)]), (5, .blk 50 [.fn 40 [.own 3 0]])], (stream_Room_R l), []⟩⟩ : SState).m.blks) (⟨[(44, .fn 41 [.own 0 0, .own 1 0, .own 2 0, .own 5 0]), (14, .fn 41 [.own 0 0, .own 1 0, .own 2 0, .own 5 0])], ⟨[(0, .blk 25 [.v (.int .i64 first.flow.lo), .v (.int .i64 first.flow.hi), .v (.int .i64 first.warm.lo), .v (.int .i64 first.warm.hi)]), (1, .blk 26 [.sl 0]), (2, .blk 3 [.v (.int .i64 at')]), (3, .blk 3 [.v (.int .i64 limit)]), (5, .blk 50 [.fn 40 [.own 3 0]])], (stream_Room_R l), []⟩⟩ : SState).m.grs E k → k ≠ E.ρ 0 ∧ k ≠ E.ρ 1 ∧ k ≠ E.ρ 2 ∧ k ≠ E.ρ 5 ∧ k ≠ E.ρ 3 ∧ True := fun k hk => ⟨fun e => hk.1 (.inl ⟨0, _, _, rfl, e.symm⟩), fun e => hk.1 (.inl ⟨1, _, _, rfl, e.symm⟩), fun e => hk.1 (.inl ⟨2, _, _, rfl, e.symm⟩), fun e => hk.1 (.inl ⟨5, _, _, rfl, e.symm⟩), fun e => hk.1 (.inl ⟨3, _, _, rfl, e.symm⟩), trivial⟩
        have r0 : InR (fun k => k ≠ E.ρ 0 ∧ k ≠ E.ρ 1 ∧ k ≠ E.ρ 2 ∧ k ≠ E.ρ 5 ∧ k ≠ E.ρ 3 ∧ True) (E.sl 0).A l.length := fun b off hl hA => hap b (S.sep.rd 0 _ b off rfl hl hA)
        have hL : HeldIn allR w (RBox (MWater.mk (MSpan.mk first.flow.lo first.flow.hi) (MSpan.mk first.warm.lo first.warm.hi)) l at' limit (vfun [.pointer (some ⟨E.ρ 0, 0, none⟩), .pointer (some ⟨E.ρ 1, 0, none⟩), .pointer (some ⟨E.ρ 2, 0, none⟩), .pointer (some ⟨E.ρ 5, 0, none⟩)])) := by
          have h1 := (HeldIn.mono (R' := allR) (S.own_blk (g := 0) rfl rfl) (fun _ _ _ => trivial)).and ((HeldIn.mono (R' := allR) (S.own_blk (g := 1) rfl rfl) (fun _ _ _ => trivial)).and ((HeldIn.mono (R' := allR) (S.own_blk (g := 2) rfl rfl) (fun _ _ _ => trivial)).and ((HeldIn.mono (R' := allR) (S.own_blk (g := 5) rfl rfl) (fun _ _ _ => trivial)).and ((HeldIn.mono (R' := allR) (S.own_blk (g := 3) rfl rfl) (fun _ _ _ => trivial)).and (HeldIn.mono (R' := allR) (S.rd_held (s := 0) rfl (fun i hi => by simp)) (fun _ _ _ => trivial))))))
          refine h1.imp fun w' hw => ⟨_, _, _, _, _, E.sl 0, rfl, rfl, rfl, rfl, n24, r0, hw.1, ?_, hw.2.2.1, hw.2.2.2.1, hw.2.2.2.2.1, hw.2.2.2.2.2⟩
          have h2 := hw.2.1
          simp only [SV.vals, SV.val, hrd.1] at h2
          exact h2
        refine sym_callI rfl rfl rfl (vs := #[.int .i64 1099511627777, .func (.func 41) #[] #[.pointer (some ⟨E.ρ 0, 0, none⟩), .pointer (some ⟨E.ρ 1, 0, none⟩), .pointer (some ⟨E.ρ 2, 0, none⟩), .pointer (some ⟨E.ρ 5, 0, none⟩)]]) ?_ enters_44 (searchRoom_ok fuel (MWater.mk (MSpan.mk first.flow.lo first.flow.hi) (MSpan.mk first.warm.lo first.warm.hi)) l at' limit 1099511627777 w (vfun [.pointer (some ⟨E.ρ 0, 0, none⟩), .pointer (some ⟨E.ρ 1, 0, none⟩), .pointer (some ⟨E.ρ 2, 0, none⟩), .pointer (some ⟨E.ρ 5, 0, none⟩)]) (vfun_one _ ⟨rfl, rfl, rfl, rfl, trivial⟩) hL r9 e9) ?_
        · have e1 := S.slot 44 _ rfl
          simp [Act.eval, e1, SV.val, SV.vals]
        rintro e w' ⟨rfl, hk⟩
        refine .inl ⟨_, rfl, ?_⟩
        have S2 : St _ _ E a w' := StF.later S hk
        have S3 := S2.put (d := 45) (by kernel_rfl) (.v (.int .i64 r9))
        clear S S2
        refine sym_runIP (n := 0) (ro := none) lay_ok [] 2 1 [15] [] (⟨[(15, .v (.int .i64 r9))], ⟨[], (stream_Room_R l), []⟩⟩) [] S3 (by kernel_rfl) (by kernel_rfl) (by kernel_rfl) trivial ?_
        clear S3; intro E a w S
        refine sym_doneI rfl ?_
        refine out_then_normal ?_
        refine wp_seq ?_
        refine sym_seq lay_ok mixed [] [15, 47] [] (⟨[(15, .v (.int .i64 r9)), (47, .v (.bool (r9 == 0)))], ⟨[], (stream_Room_R l), []⟩⟩) [] S (by kernel_rfl) (by kernel_rfl) (by kernel_rfl) trivial ?_
        clear S; intro E a w S
        refine sym_if_last (b := (r9 == 0)) S rfl (fun hb4 => ?_) (fun hb4 => ?_)
        · have h := bif_t hb4 h
          refine sym_seq lay_ok mixed [] [8, 9] [] (⟨[(8, .v (.int .i64 0)), (9, .v (.int .i64 11))], ⟨[], (stream_Room_R l), []⟩⟩) [] S (by kernel_rfl) (by kernel_rfl) (by kernel_rfl) trivial ?_
          clear S; intro E a w S
          refine wp_ret ?_
          refine out_then_ret ?_
          have h := Option.some.inj h
          subst h
          exact sym_ret lay_ok [.v (.int .i64 0), .v (.int .i64 11)] (by kernel_rfl) rfl S ⟨rfl, S.below rfl⟩
        · have h := bif_f hb4 h
          refine wp_skip ?_
          refine out_then_normal ?_
          obtain ⟨g1, h⟩ := grd_some h
          refine sym_seq lay_ok mixed [] [8, 9] [] (⟨[(8, .v (.int .i64 (r9 - 1))), (9, .v (.int .i64 0))], ⟨[], (stream_Room_R l), []⟩⟩) [.rng .i64 (r9 - 1)] S (by kernel_rfl) (by kernel_rfl) (by kernel_rfl) ⟨rngI64 g1, trivial⟩ ?_
          clear S; intro E a w S
          refine wp_ret ?_
          have h := Option.some.inj h
          subst h
          exact sym_ret lay_ok [.v (.int .i64 (r9 - 1)), .v (.int .i64 0)] (by kernel_rfl) rfl S ⟨rfl, S.below rfl⟩
end Go.Proofs.Ytlcccomdijdkaaa
