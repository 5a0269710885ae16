/- Models and walks, printed by program. -/
import Derived.Test.YtlcccomdijdkaaaSyR4
namespace Go.Proofs.Ytlcccomdijdkaaa
open Go.RowKit Go.Proofs.Try

def stream_Runs_R (room : List Int) (l : List MBurner) : List (Nat × Q) := [(0, ⟨room.length, 1, fun i => [.int .i64 (room.getD i default)]⟩), (1, ⟨l.length, 4, fun i => [.int .i64 ((l.getD i default).ready), .int .i64 ((l.getD i default).due), .int .i64 ((l.getD i default).hours), .int .i64 ((l.getD i default).heat)]⟩)]
def stream_Runs (fuel : Nat) (room : List Int) (l : List MBurner) : Option (List Int × Int) :=
(stream_validRuns fuel l ((room.length : Nat) : Int)).bind fun (r1 : Bool) =>
((bif (!(!r1)) then stream_validRoom fuel room else some default)).bind fun (r2 : Bool) =>
(bif ((!r1) || (!r2)) then
(some ([], 1))
else
(grd ((room.length ≤ 168)) <|
grd (InI64 (((room.length : Nat) : Int) + 1)) <|
(searchRuns fuel (arrCopy (List.replicate 168 0) room) l (((room.length : Nat) : Int) + 1)).bind fun (r9 : Int) =>
(bif decide (((room.length : Nat) : Int) < r9) then
(some ([], 4))
else
((stream_hours_plan fuel (arrCopy (List.replicate 168 0) room) l r9).bind fun (r3 : (List Int)) =>
some (r3, 0)))))
set_option maxRecDepth 100000 in
set_option maxHeartbeats 4000000 in
theorem stream_Runs_ok (fuel : Nat) (room : List Int) (l : List MBurner) (W : World) (A0 : Option Addr) (c0 : Nat) (h0 : room.length ≤ c0) (s0 : SlAt W A0 room.length 1 fun i => [.int .i64 (room.getD i default)]) (A1 : Option Addr) (c1 : Nat) (h1 : l.length ≤ c1) (s1 : SlAt W A1 l.length 4 fun i => [.int .i64 ((l.getD i default).ready), .int .i64 ((l.getD i default).due), .int .i64 ((l.getD i default).hours), .int .i64 ((l.getD i default).heat)]) (res : List Int × Int) (h : stream_Runs fuel room l = some res) :
    Calls Go.Proofs.Try.prog 21 #[.slice A0 room.length c0, .slice A1 l.length c1] W fun e w' => ∃ v : Nat → Value, e = .returned (.tuple #[v 0, .int .i64 res.2]) ∧ Below W.heap.size W w' ∧ (∀ i, (v i).oneCell' = true) ∧ HeldIn (fun k => W.heap.size ≤ k) w' (SlicesAre 0 [⟨res.1.length, 1, fun i => [.int .i64 (res.1.getD i default)]⟩] v) := by
  refine sym_call (f := 21) (fn := Go.Proofs.Try.f21) (c := Go.Proofs.Try.f21.body.get rfl) Go.Proofs.Try.func21 rfl [.sl 0, .sl 1] (stream_Runs_R room l) [] (envOf [(0, ⟨A0, room.length, c0, 1⟩), (1, ⟨A1, l.length, c1, 4⟩)]) allR (fun _ _ => rfl) (by kernel_rfl) (envOf_one trivial) ⟨s0.rd h0, s1.rd h1, trivial⟩ (AllRR.all _ _) trivial fun E a w S => ?_
  rw [stream_Runs] at h
  refine sym_seq lay_ok mixed [(0, { g := 0 })] [0, 3] [0] (⟨[(0, .sl 0), (3, .own 0 0)], ⟨[(0, .blk 42 [.sl 1])], (stream_Runs_R room l), []⟩⟩) [] S (by kernel_rfl) (by kernel_rfl) (by kernel_rfl) trivial ?_
  clear S; intro E a w S
  refine wp_seq ?_
  obtain ⟨r1, e1, h⟩ := bind_some h
  obtain ⟨r2, e2, h⟩ := bind_some h
  refine sym_seq lay_ok mixed [(3, { res := .v (.bool r1) }), (6, { og := true }), (7, { og := true, res := .v (.bool r2) }), (8, { og := true }), (9, { pk := true })] [0, 3, 17] [0] (⟨[(0, .sl 0), (3, .own 0 0), (17, .v (.bool ((!r1) || (!r2))))], ⟨[(0, .blk 42 [.sl 1])], (stream_Runs_R room l), []⟩⟩) [.call ⟨[], (stream_Runs_R room l), []⟩ 46 [.sl 1, .v (.int .i64 ((room.length : Nat) : Int))] (.v (.bool r1)), .imp (!(!r1)) (!(!r1)), .when (!(!r1)) (.call ⟨[], (stream_Runs_R room l), []⟩ 47 [.sl 0] (.v (.bool r2))), .imp (!(!r1)) (!(!r1)), .imp (!(!r1)) (!(!r1))] S (by kernel_rfl) (by kernel_rfl) (by kernel_rfl) ⟨⟨enters_46, fun E W _ hm => by obtain ⟨A0, c0, q0, l0, s0, _⟩ := Mem.sl hm (s := 1) rfl; simp only [SV.vals, SV.val, q0]; exact stream_validRuns_ok fuel l ((room.length : Nat) : Int) W A0 c0 l0 s0 r1 e1⟩, fun h => h, fun hW => ⟨enters_47, fun E W _ hm => by obtain ⟨A0, c0, q0, l0, s0, _⟩ := Mem.sl hm (s := 0) rfl; simp only [SV.vals, SV.val, q0]; exact stream_validRoom_ok fuel room W A0 c0 l0 s0 r2 (bif_t hW e2)⟩, fun h => h, fun h => h, trivial⟩ ?_
  clear S; intro E a w S
  refine sym_if_last (b := ((!r1) || (!r2))) S rfl (fun hb1 => ?_) (fun hb1 => ?_)
  · have h := bif_t hb1 h
    refine sym_seq lay_ok mixed [] [4, 5] [] (⟨[(4, .v (.slice none 0 0)), (5, .v (.int .i64 1))], ⟨[], (stream_Runs_R room l), []⟩⟩) [] S (by kernel_rfl) (by kernel_rfl) (by kernel_rfl) trivial ?_
    clear S; intro E a w S
    refine wp_ret ?_
    refine out_then_ret ?_
    have h := Option.some.inj h
    subst h
    exact sym_ret lay_ok [.v (.slice none 0 0), .v (.int .i64 1)] (by kernel_rfl) rfl S ⟨vfun [.slice none 0 0], rfl, S.below rfl, vfun_one [.slice none 0 0] ⟨rfl, trivial⟩, ((HeldIn.true fun _ => ⟨_, _, rfl, Nat.le_refl _, SlAt.nil⟩).and (HeldIn.true fun _ => trivial))⟩
  · have h := bif_f hb1 h
    refine wp_skip ?_
    refine out_then_normal ?_
    refine sym_seq lay_ok mixed [(0, { g := 1 })] [0, 3, 6] [0, 1] (⟨[(0, .sl 0), (3, .own 0 0), (6, .own 1 0)], ⟨[(0, .blk 42 [.sl 1]), (1, .blk 85 (arrSV (List.replicate 168 0)))], (stream_Runs_R room l), []⟩⟩) [] S (by kernel_rfl) (by kernel_rfl) (by kernel_rfl) trivial ?_
    clear S; intro E a w S
    obtain ⟨g1, h⟩ := grd_some h
    refine sym_open ?_
    refine sym_runP lay_ok [(0, { px := some (.row 1 0 168 168) })] 0 2 [0, 3, 6, 18, 19] [0, 1] (⟨[(0, .sl 0), (3, .own 0 0), (6, .own 1 0), (18, .row 1 0 168 168), (19, .sl 0)], ⟨[(0, .blk 42 [.sl 1]), (1, .blk 85 (arrSV (List.replicate 168 0)))], (stream_Runs_R room l), []⟩⟩) [.pure ⟨[], (stream_Runs_R room l), []⟩ (.slice 85 (.tmp 6) none none none) [.own 1 0] (.row 1 0 168 168)] S (by kernel_rfl) (by kernel_rfl) ⟨pure_sliceArr lay_ok rfl, trivial⟩ ?_
    clear S; intro E a w S
    refine sym_copyArr lay_ok rfl (.tmp 18) (.tmp 19) 33 rfl rfl S 1 85 0 (List.replicate 168 0) room ⟨room.length, 1, fun i => [.int .i64 (room.getD i default)]⟩ rfl ⟨.int .i64, 1, [.int .i64 0], false, 8⟩ rfl rfl rfl rfl rfl rfl rfl g1 (fun e he => by cases he; exact Nat.lt_of_succ_le (Nat.le_of_ble_eq_true rfl)) ?_
    clear S; intro a w S; have S := St.pickG S [0, 3, 6] [1, 0] [] (⟨[(0, .sl 0), (3, .own 0 0), (6, .own 1 0)], ⟨[(1, .blk 85 (arrSV (arrCopy (List.replicate 168 0) room))), (0, .blk 42 [.sl 1])], (stream_Runs_R room l), []⟩⟩) (by kernel_rfl)
    refine sym_done rfl ?_
    refine out_then_normal ?_
    have S := St.pickG S [0, 3, 6] [1, 0] [] (⟨[(0, .sl 0), (3, .own 0 0), (6, .own 1 0)], ⟨[(1, .blk 85 (arrSV (arrCopy (List.replicate 168 0) room))), (0, .blk 42 [.sl 1])], (stream_Runs_R room l), []⟩⟩) (by kernel_rfl)
    obtain ⟨g2, h⟩ := grd_some h
    refine wp_seq ((wpIn_wide (n := 0)).1 (sym_openI (ro := none) ?_))
    refine sym_runI lay_ok [] 0 4 (⟨[(24, .fn 48 [.own 1 0, .own 0 0]), (23, .v (.int .i64 (((room.length : Nat) : Int) + 1))), (22, .v (.int .i64 ((room.length : Nat) : Int))), (21, .sl 0), (0, .sl 0), (3, .own 0 0), (6, .own 1 0)], ⟨[(1, .blk 85 (arrSV (arrCopy (List.replicate 168 0) room))), (0, .blk 42 [.sl 1])], (stream_Runs_R room l), []⟩⟩) [.rng .i64 (((room.length : Nat) : Int) + 1)] S (by kernel_rfl) (by kernel_rfl) (by kernel_rfl) ⟨rngI64 g2, trivial⟩ ?_
    clear S; intro E a w S
    obtain ⟨r9, e9, h⟩ := bind_some h
    have hrd := S.mem.rd 1 _ rfl
    have hap : ∀ k, Apart W.heap.size allR (look (⟨[(24, .fn 48 [.own 1 0, .own 0 0]), (23, .v (.int .i64 (((room.length : Nat) : Int) + 1))), (22, .v (.int .i64 ((room.length : Nat) : Int))), (21, .sl 0), (0, .sl 0), (3, .own 0 0), (6, .own 1 0)], ⟨[(1, .blk 85 (arrSV (arrCopy (List.replicate 168 0) room))), (0, .blk 42 [.sl 1])], (stream_Runs_R room l), []⟩⟩ : SState).m.blks) (⟨[(24, .fn 48 [.own 1 0, .own 0 0]), (23, .v (.int .i64 (((room.length : Nat) : Int) + 1))), (22, .v (.int .i64 ((room.length : Nat) : Int))), (21, .sl 0), (0, .sl 0), (3, .own 0 0), (6, .own 1 0)], ⟨[(1, .blk 85 (arrSV (arrCopy (List.replicate 168 0) room))), (0, .blk 42 [.sl 1])], (stream_Runs_R room l), []⟩⟩ : SState).m.grs E k → k ≠ E.ρ 1 ∧ k ≠ E.ρ 0 ∧ True := fun k hk => ⟨fun e => hk.1 (.inl ⟨1, _, _, rfl, e.symm⟩), fun e => hk.1 (.inl ⟨0, _, _, rfl, e.symm⟩), trivial⟩
    have r0 : InR (fun k => k ≠ E.ρ 1 ∧ k ≠ E.ρ 0 ∧ True) (E.sl 1).A l.length := fun b off hl hA => hap b (S.sep.rd 1 _ b off rfl hl hA)
    have hL : HeldIn allR w (UBox (arrCopy (List.replicate 168 0) room) l (vfun [.pointer (some ⟨E.ρ 1, 0, none⟩), .pointer (some ⟨E.ρ 0, 0, none⟩)])) := by
      have h1 := (HeldIn.mono (R' := allR) (S.own_blk (g := 1) rfl rfl) (fun _ _ _ => trivial)).and ((HeldIn.mono (R' := allR) (S.own_blk (g := 0) rfl rfl) (fun _ _ _ => trivial)).and (HeldIn.mono (R' := allR) (S.rd_held (s := 1) rfl (fun i hi => by simp)) (fun _ _ _ => trivial)))
      refine h1.imp fun w' hw => ⟨_, _, E.sl 1, rfl, rfl, r0, ?_, ?_, hw.2.2⟩
      · have h2 := hw.1
        rw [arr_valsA] at h2
        exact h2
      · have h2 := hw.2.1
        simp only [SV.vals, SV.val, hrd.1] at h2
        exact h2
    refine sym_callI rfl rfl rfl (vs := #[.int .i64 (((room.length : Nat) : Int) + 1), .func (.func 48) #[] #[.pointer (some ⟨E.ρ 1, 0, none⟩), .pointer (some ⟨E.ρ 0, 0, none⟩)]]) ?_ enters_44 (searchRuns_ok fuel (arrCopy (List.replicate 168 0) room) l (((room.length : Nat) : Int) + 1) w (vfun [.pointer (some ⟨E.ρ 1, 0, none⟩), .pointer (some ⟨E.ρ 0, 0, none⟩)]) (vfun_one _ ⟨rfl, rfl, trivial⟩) hL r9 e9) ?_
    · have e1 := S.slot 24 _ rfl
      have e2 := S.slot 23 _ rfl
      simp [Act.eval, e1, e2, SV.val, SV.vals]
    rintro e w' ⟨rfl, hk⟩
    refine .inl ⟨_, rfl, ?_⟩
    have S2 : St _ _ E a w' := StF.later S hk
    have S3 := S2.put (d := 25) (by kernel_rfl) (.v (.int .i64 r9))
    clear S S2
    refine sym_runIP (n := 0) (ro := none) lay_ok [] 5 1 [7, 0, 3, 6] [1, 0] (⟨[(7, .v (.int .i64 r9)), (0, .sl 0), (3, .own 0 0), (6, .own 1 0)], ⟨[(1, .blk 85 (arrSV (arrCopy (List.replicate 168 0) room))), (0, .blk 42 [.sl 1])], (stream_Runs_R room l), []⟩⟩) [] S3 (by kernel_rfl) (by kernel_rfl) (by kernel_rfl) trivial ?_
    clear S3; intro E a w S
    refine sym_doneI rfl ?_
    refine out_then_normal ?_
    refine wp_seq ?_
    refine sym_seq lay_ok mixed [] [7, 3, 6, 29] [1, 0] (⟨[(7, .v (.int .i64 r9)), (3, .own 0 0), (6, .own 1 0), (29, .v (.bool (decide (((room.length : Nat) : Int) < r9))))], ⟨[(1, .blk 85 (arrSV (arrCopy (List.replicate 168 0) room))), (0, .blk 42 [.sl 1])], (stream_Runs_R room l), []⟩⟩) [] S (by kernel_rfl) (by kernel_rfl) (by kernel_rfl) trivial ?_
    clear S; intro E a w S
    refine sym_if_last (b := decide (((room.length : Nat) : Int) < r9)) S rfl (fun hb2 => ?_) (fun hb2 => ?_)
    · have h := bif_t hb2 h
      refine sym_seq lay_ok mixed [] [4, 5] [] (⟨[(4, .v (.slice none 0 0)), (5, .v (.int .i64 4))], ⟨[], (stream_Runs_R room l), []⟩⟩) [] S (by kernel_rfl) (by kernel_rfl) (by kernel_rfl) trivial ?_
      clear S; intro E a w S
      refine wp_ret ?_
      refine out_then_ret ?_
      have h := Option.some.inj h
      subst h
      exact sym_ret lay_ok [.v (.slice none 0 0), .v (.int .i64 4)] (by kernel_rfl) rfl S ⟨vfun [.slice none 0 0], rfl, S.below rfl, vfun_one [.slice none 0 0] ⟨rfl, trivial⟩, ((HeldIn.true fun _ => ⟨_, _, rfl, Nat.le_refl _, SlAt.nil⟩).and (HeldIn.true fun _ => trivial))⟩
    · have h := bif_f hb2 h
      refine wp_skip ?_
      refine out_then_normal ?_
      obtain ⟨r3, e3, h⟩ := bind_some h
      refine sym_seq lay_ok mixed [(3, { g := 2, res := .ltr 2 0, hx := some (SliceNew W.heap.size ⟨r3.length, 1, fun i => [.int .i64 (r3.getD i default)]⟩) })] [4, 5] [2] (⟨[(4, .ltr 2 0), (5, .v (.int .i64 0))], ⟨[(2, .held (SliceNew W.heap.size ⟨r3.length, 1, fun i => [.int .i64 (r3.getD i default)]⟩))], (stream_Runs_R room l), []⟩⟩) [.callx ⟨[], (stream_Runs_R room l), []⟩ 2 50 [.agg (arrSV (arrCopy (List.replicate 168 0) room)), .sl 1, .v (.int .i64 r9)] (.ltr 2 0) (SliceNew W.heap.size ⟨r3.length, 1, fun i => [.int .i64 (r3.getD i default)]⟩)] S (by kernel_rfl) (by kernel_rfl) (by kernel_rfl) ⟨⟨enters_50, fun E W _ hm => by obtain ⟨A0, c0, q0, l0, s0, _⟩ := Mem.sl hm (s := 1) rfl; simp only [SV.vals, SV.val, arr_valsA, q0]; exact ((stream_hours_plan_ok fuel (arrCopy (List.replicate 168 0) room) l r9 W A0 c0 l0 s0 r3 e3).mono fun e w' hx => by obtain ⟨v, h1, h2, h3, h4⟩ := hx; exact ⟨v, h1, h2, h3, (SliceNew.of hm.size h4 (by simp)).mono fun _ _ h => .inl h⟩)⟩, trivial⟩ ?_
      clear S; intro E a w S
      refine wp_ret ?_
      have h := Option.some.inj h
      subst h
      exact sym_ret lay_ok [.ltr 2 0, .v (.int .i64 0)] (by kernel_rfl) rfl S ⟨vfun [E.x 2 0], rfl, S.below rfl, vfun_one [E.x 2 0] ⟨(S.mem.one 2 0), trivial⟩, ((SliceNew.back (S.sep.held 2 _ rfl) (u := vfun [E.x 2 0]) (j := 0) rfl (fun i hi => by simp)).and (HeldIn.true fun _ => trivial))⟩
end Go.Proofs.Ytlcccomdijdkaaa
