/- Models and walks, printed by program. -/
import Derived.Test.YtnfahoomoelmcaaSyRunA
namespace Go.Proofs.Ytnfahoomoelmcaa
open Go.RowKit Go.Proofs.Try

def runOf_R (c : MCurve) (amounts : List Int) : List (Nat × Q) := [(0, ⟨c.liquid.length, 1, fun i => [.int .i64 (c.liquid.getD i default)]⟩), (1, ⟨c.vapour.length, 2, fun i => [.int .i64 ((c.vapour.getD i default).lo), .int .i64 ((c.vapour.getD i default).hi)]⟩), (2, ⟨amounts.length, 1, fun i => [.int .i64 (amounts.getD i default)]⟩)]
def runOf (fuel : Nat) (c : MCurve) (p : MPot) (amounts : List Int) : Option (List MDrawn × MPot × Int) :=
(still_check fuel c (MPot.mk p.volume (MSpan.mk p.alcohol.lo p.alcohol.hi)) amounts).bind fun (r1 : Int) =>
(bif (r1 != 0) then
(some ([], (MPot.mk 0 (MSpan.mk 0 0)), r1))
else
((hand fuel c p amounts).bind fun z =>
grd (amounts.length ≤ 1000000) <|
some (outOf z)))
set_option maxRecDepth 100000 in
set_option maxHeartbeats 4000000 in
theorem runOf_ok (fuel : Nat) (c : MCurve) (p : MPot) (amounts : List Int) (W : World) (A0 : Option Addr) (c0 : Nat) (h0 : c.liquid.length ≤ c0) (s0 : SlAt W A0 c.liquid.length 1 fun i => [.int .i64 (c.liquid.getD i default)]) (A1 : Option Addr) (c1 : Nat) (h1 : c.vapour.length ≤ c1) (s1 : SlAt W A1 c.vapour.length 2 fun i => [.int .i64 ((c.vapour.getD i default).lo), .int .i64 ((c.vapour.getD i default).hi)]) (A2 : Option Addr) (c2 : Nat) (h2 : amounts.length ≤ c2) (s2 : SlAt W A2 amounts.length 1 fun i => [.int .i64 (amounts.getD i default)]) (res : List MDrawn × MPot × Int) (h : runOf fuel c p amounts = some res) :
    Calls Go.Proofs.Try.prog 22 #[.agg #[.slice A0 c.liquid.length c0, .slice A1 c.vapour.length c1], .agg #[.int .i64 p.volume, .int .i64 p.alcohol.lo, .int .i64 p.alcohol.hi], .slice A2 amounts.length c2] W fun e w' => ∃ v : Nat → Value, e = .returned (.tuple #[v 0, .agg #[.int .i64 res.2.1.volume, .int .i64 res.2.1.alcohol.lo, .int .i64 res.2.1.alcohol.hi], .int .i64 res.2.2]) ∧ Below W.heap.size W w' ∧ (∀ i, (v i).oneCell' = true) ∧ HeldIn (fun k => W.heap.size ≤ k) w' (SlicesAre 0 [⟨res.1.length, 3, fun i => [.int .i64 ((res.1.getD i default).amount), .int .i64 (((res.1.getD i default).alcohol).lo), .int .i64 (((res.1.getD i default).alcohol).hi)]⟩] v) := by
  refine sym_call (f := 22) (fn := Go.Proofs.Try.f22) (c := Go.Proofs.Try.f22.body.get rfl) Go.Proofs.Try.func22 rfl [.agg [.sl 0, .sl 1], .agg [.v (.int .i64 p.volume), .v (.int .i64 p.alcohol.lo), .v (.int .i64 p.alcohol.hi)], .sl 2] (runOf_R c amounts) [] (envOf [(0, ⟨A0, c.liquid.length, c0, 1⟩), (1, ⟨A1, c.vapour.length, c1, 2⟩), (2, ⟨A2, amounts.length, c2, 1⟩)]) allR (fun _ _ => rfl) (by kernel_rfl) (envOf_one trivial) ⟨s0.rd h0, s1.rd h1, s2.rd h2, trivial⟩ (AllRR.all _ _) trivial fun E a w S => ?_
  rw [runOf] at h
  refine sym_seq lay_ok mixed [(0, { g := 0 }), (1, { g := 1 }), (3, { g := 2 })] [2, 3, 4, 7] [0, 1, 2] (⟨[(2, .sl 2), (3, .own 0 0), (4, .own 1 0), (7, .own 2 0)], ⟨[(0, .blk 25 [.sl 0, .sl 1]), (1, .blk 29 [.v (.int .i64 p.volume), .v (.int .i64 p.alcohol.lo), .v (.int .i64 p.alcohol.hi)]), (2, .blk 29 [.v (.int .i64 0), .v (.int .i64 0), .v (.int .i64 0)])], (runOf_R c amounts), []⟩⟩) [] S (by kernel_rfl) (by kernel_rfl) (by kernel_rfl) trivial ?_
  clear S; intro E a w S
  refine wp_seq ?_
  obtain ⟨r1, e1, h⟩ := bind_some h
  refine sym_seq lay_ok mixed [(3, { res := .v (.int .i64 r1) })] [2, 3, 4, 7, 9] [0, 1, 2] (⟨[(2, .sl 2), (3, .own 0 0), (4, .own 1 0), (7, .own 2 0), (9, .v (.int .i64 r1))], ⟨[(0, .blk 25 [.sl 0, .sl 1]), (1, .blk 29 [.v (.int .i64 p.volume), .v (.int .i64 p.alcohol.lo), .v (.int .i64 p.alcohol.hi)]), (2, .blk 29 [.v (.int .i64 0), .v (.int .i64 0), .v (.int .i64 0)])], (runOf_R c amounts), []⟩⟩) [.call ⟨[], (runOf_R c amounts), []⟩ 53 [.agg [.sl 0, .sl 1], .agg [.v (.int .i64 p.volume), .v (.int .i64 p.alcohol.lo), .v (.int .i64 p.alcohol.hi)], .sl 2] (.v (.int .i64 r1))] S (by kernel_rfl) (by kernel_rfl) (by kernel_rfl) ⟨⟨enters_53, fun E W _ hm => by obtain ⟨A0, c0, q0, l0, s0, _⟩ := Mem.sl hm (s := 0) rfl; obtain ⟨A1, c1, q1, l1, s1, _⟩ := Mem.sl hm (s := 1) rfl; obtain ⟨A2, c2, q2, l2, s2, _⟩ := Mem.sl hm (s := 2) rfl; simp only [SV.vals, SV.val, q0, q1, q2]; exact still_check_ok fuel c (MPot.mk p.volume (MSpan.mk p.alcohol.lo p.alcohol.hi)) amounts W A0 c0 l0 s0 A1 c1 l1 s1 A2 c2 l2 s2 r1 e1⟩, trivial⟩ ?_
  clear S; intro E a w S
  refine sym_seq lay_ok mixed [] [2, 3, 4, 7, 9, 16] [0, 1, 2] (⟨[(2, .sl 2), (3, .own 0 0), (4, .own 1 0), (7, .own 2 0), (9, .v (.int .i64 r1)), (16, .v (.bool (r1 != 0)))], ⟨[(0, .blk 25 [.sl 0, .sl 1]), (1, .blk 29 [.v (.int .i64 p.volume), .v (.int .i64 p.alcohol.lo), .v (.int .i64 p.alcohol.hi)]), (2, .blk 29 [.v (.int .i64 0), .v (.int .i64 0), .v (.int .i64 0)])], (runOf_R c amounts), []⟩⟩) [] S (by kernel_rfl) (by kernel_rfl) (by kernel_rfl) trivial ?_
  clear S; intro E a w S
  refine sym_if_last (b := (r1 != 0)) S rfl (fun hb1 => ?_) (fun hb1 => ?_)
  · have h := bif_t hb1 h
    refine sym_seq lay_ok mixed [] [7, 6, 8] [2] (⟨[(7, .own 2 0), (6, .v (.slice none 0 0)), (8, .v (.int .i64 r1))], ⟨[(2, .blk 29 [.v (.int .i64 0), .v (.int .i64 0), .v (.int .i64 0)])], (runOf_R c amounts), []⟩⟩) [] S (by kernel_rfl) (by kernel_rfl) (by kernel_rfl) trivial ?_
    clear S; intro E a w S
    refine wp_ret ?_
    refine out_then_ret ?_
    have h := Option.some.inj h
    subst h
    exact sym_ret lay_ok [.v (.slice none 0 0), .agg [.v (.int .i64 0), .v (.int .i64 0), .v (.int .i64 0)], .v (.int .i64 r1)] (by kernel_rfl) rfl S ⟨vfun [.slice none 0 0], rfl, S.below rfl, vfun_one [.slice none 0 0] ⟨rfl, trivial⟩, ((HeldIn.true fun _ => ⟨_, _, rfl, Nat.le_refl _, SlAt.nil⟩).and (HeldIn.true fun _ => trivial))⟩
  · have h := bif_f hb1 h
    refine wp_skip ?_
    refine out_then_normal ?_
    refine sym_seq lay_ok mixed [(2, { g := 3, res := .agg [.fn 74 [.ltr 3 0, .ltr 3 1, .ltr 3 2], .fn 74 [.ltr 3 3, .ltr 3 4, .ltr 3 5]], hx := some (Lines c) }), (4, { g := 4 })] [2, 7, 10] [2, 3, 4] (⟨[(2, .sl 2), (7, .own 2 0), (10, .own 4 0)], ⟨[(2, .blk 29 [.v (.int .i64 0), .v (.int .i64 0), .v (.int .i64 0)]), (3, .held (Lines c)), (4, .blk 92 [.v (.int .i64 p.volume), .v (.int .i64 p.alcohol.lo), .v (.int .i64 p.alcohol.hi), .fn 74 [.ltr 3 0, .ltr 3 1, .ltr 3 2], .fn 74 [.ltr 3 3, .ltr 3 4, .ltr 3 5]])], (runOf_R c amounts), []⟩⟩) [.callx ⟨[], (runOf_R c amounts), []⟩ 3 47 [.agg [.sl 0, .sl 1]] (.agg [.fn 74 [.ltr 3 0, .ltr 3 1, .ltr 3 2], .fn 74 [.ltr 3 3, .ltr 3 4, .ltr 3 5]]) (Lines c)] S (by kernel_rfl) (by kernel_rfl) (by kernel_rfl) ⟨⟨enters_47, fun E W R hm => by obtain ⟨A0, c0, q0, l0, s0, r0⟩ := Mem.sl hm (s := 0) rfl; obtain ⟨A1, c1, q1, l1, s1, r1⟩ := Mem.sl hm (s := 1) rfl; simp only [SV.vals, SV.val, q0, q1, Env.updX_same]; exact linesOf_ok c W R A0 c0 l0 s0 r0 A1 c1 l1 s1 r1⟩, trivial⟩ ?_
    clear S; intro E a w S
    obtain ⟨z, hz, h⟩ := bind_some h
    obtain ⟨hlen, h⟩ := grd_some h
    have h := Option.some.inj h
    subst h
    refine wp_seq ((wpIn_wide (n := 0)).1 (sym_openI (ro := none) ?_))
    refine sym_runI lay_ok [] 0 1 (⟨[(23, .sl 2), (2, .sl 2), (7, .own 2 0), (10, .own 4 0)], ⟨[(2, .blk 29 [.v (.int .i64 0), .v (.int .i64 0), .v (.int .i64 0)]), (3, .held (Lines c)), (4, .blk 92 [.v (.int .i64 p.volume), .v (.int .i64 p.alcohol.lo), .v (.int .i64 p.alcohol.hi), .fn 74 [.ltr 3 0, .ltr 3 1, .ltr 3 2], .fn 74 [.ltr 3 3, .ltr 3 4, .ltr 3 5]])], (runOf_R c amounts), []⟩⟩) [] S (by kernel_rfl) (by kernel_rfl) (by kernel_rfl) trivial ?_
    clear S; intro E a w S
    have hb := S.mem.blk 4 _ _ rfl
    have hrd := S.mem.rd 2 _ rfl
    have hap : ∀ k, Apart W.heap.size allR (look (⟨[(23, .sl 2), (2, .sl 2), (7, .own 2 0), (10, .own 4 0)], ⟨[(2, .blk 29 [.v (.int .i64 0), .v (.int .i64 0), .v (.int .i64 0)]), (3, .held (Lines c)), (4, .blk 92 [.v (.int .i64 p.volume), .v (.int .i64 p.alcohol.lo), .v (.int .i64 p.alcohol.hi), .fn 74 [.ltr 3 0, .ltr 3 1, .ltr 3 2], .fn 74 [.ltr 3 3, .ltr 3 4, .ltr 3 5]])], (runOf_R c amounts), []⟩⟩ : SState).m.blks) (⟨[(23, .sl 2), (2, .sl 2), (7, .own 2 0), (10, .own 4 0)], ⟨[(2, .blk 29 [.v (.int .i64 0), .v (.int .i64 0), .v (.int .i64 0)]), (3, .held (Lines c)), (4, .blk 92 [.v (.int .i64 p.volume), .v (.int .i64 p.alcohol.lo), .v (.int .i64 p.alcohol.hi), .fn 74 [.ltr 3 0, .ltr 3 1, .ltr 3 2], .fn 74 [.ltr 3 3, .ltr 3 4, .ltr 3 5]])], (runOf_R c amounts), []⟩⟩ : SState).m.grs E k → k ≠ E.ρ 4 := fun k hk e => hk.1 (.inl ⟨4, _, _, rfl, e.symm⟩)
    have hb0 : W.heap.size ≤ E.ρ 4 := (S.sep.base 4 _ _ rfl).resolve_right (fun h => h)
    have hne : E.ρ 4 ≠ E.ρ 2 := fun e => absurd (S.sep.inj _ _ _ _ _ _ (rfl : look (⟨[(23, .sl 2), (2, .sl 2), (7, .own 2 0), (10, .own 4 0)], ⟨[(2, .blk 29 [.v (.int .i64 0), .v (.int .i64 0), .v (.int .i64 0)]), (3, .held (Lines c)), (4, .blk 92 [.v (.int .i64 p.volume), .v (.int .i64 p.alcohol.lo), .v (.int .i64 p.alcohol.hi), .fn 74 [.ltr 3 0, .ltr 3 1, .ltr 3 2], .fn 74 [.ltr 3 3, .ltr 3 4, .ltr 3 5]])], (runOf_R c amounts), []⟩⟩ : SState).m.blks 4 = _) rfl e) (by decide)
    refine sym_callI rfl rfl rfl (vs := #[.pointer (some ⟨E.ρ 4, 0, none⟩), .slice (E.sl 2).A amounts.length (E.sl 2).cap]) ?_ enters_54 (all_ok2 fuel c p amounts (E.x 3) (E.ρ 4) (E.sl 2).A (E.sl 2).cap z w (S.mem.one 3) hz hlen hrd.2.2.1 hrd.2.2.2 (fun b off hl hA => hap _ (S.sep.rd 2 _ b off rfl hl hA)) ((S.sep.held 3 _ rfl).mono fun _ _ h => hap _ h) hb) ?_
    · have e1 := S.slot 10 _ rfl
      have e2 := S.slot 23 _ rfl
      simp only [SV.val, hrd.1, hrd.2.1] at e1 e2
      simp [Act.eval, e1, e2]
    rintro e w' ⟨hk, u, rfl, hu, hH⟩
    refine .inl ⟨_, rfl, ?_⟩
    have hrd2 : ∀ s q b off, look (runOf_R c amounts) s = some q → 0 < q.len → (E.sl s).A = some ⟨b, off, none⟩ → b ≠ E.ρ 4 := fun s q b off hq hl hA => hap _ (S.sep.rd s q b off hq hl hA)
    have hsz := S.kept.size
    have hg7 : E.ρ 2 < w.heap.size := (S.mem.blk 2 _ _ rfl).lt
    have S := S.pick [7] [2] (⟨[(7, .own 2 0)], ⟨[(2, .blk 29 [.v (.int .i64 0), .v (.int .i64 0), .v (.int .i64 0)])], (runOf_R c amounts), []⟩⟩) rfl
    have own : ∀ k, SState.own (⟨[(7, .own 2 0)], ⟨[(2, .blk 29 [.v (.int .i64 0), .v (.int .i64 0), .v (.int .i64 0)])], (runOf_R c amounts), []⟩⟩) E k → k = E.ρ 2 := fun k hk => by
      rcases hk with ⟨g, t, cs, hx, rfl⟩ | ⟨j, q, hx, _⟩
      · rcases look_cases hx with ⟨rfl, _⟩ | ⟨_, h2⟩
        · rfl
        · simp [look] at h2
      · simp [look] at hx
    have S := S.moved hk hrd2 (fun g Φ hx => by
      rcases look_cases hx with ⟨_, h⟩ | ⟨_, h2⟩
      · cases h
      · simp [look] at h2) (fun k _ hk => by subst hk; exact ⟨fun ho => hne (own _ ho), .inl hb0⟩)
    have S := S.put (d := 24) rfl (.tup [.v u, .agg [.v (.int .i64 (outOf z).2.1.volume), .v (.int .i64 (outOf z).2.1.alcohol.lo), .v (.int .i64 (outOf z).2.1.alcohol.hi)], .v (.int .i64 (outOf z).2.2)])
    have hK := S.kept
    have hg0 : W.heap.size ≤ E.ρ 2 := (S.sep.base 2 _ _ rfl).resolve_right (fun h => h)
    have S := S.rebase (fun k => k = E.ρ 2) (fun k hk => own k hk)
    refine sym_runIP lay_ok [] 2 6 [8, 6, 7] [2] (⟨[(8, .v (.int .i64 (outOf z).2.2)), (6, .v u), (7, .own 2 0)], ⟨[(2, .blk 29 [.v (.int .i64 (outOf z).2.1.volume), .v (.int .i64 (outOf z).2.1.alcohol.lo), .v (.int .i64 (outOf z).2.1.alcohol.hi)])], (runOf_R c amounts), []⟩⟩) [] S (by kernel_rfl) (by kernel_rfl) (by kernel_rfl) trivial ?_
    clear S; intro E2 a2 w2 S
    refine sym_doneI rfl ?_
    refine out_then_normal ?_
    refine wp_ret ?_
    have hk2 := S.kept
    refine sym_ret lay_ok [.v u, .agg [.v (.int .i64 (outOf z).2.1.volume), .v (.int .i64 (outOf z).2.1.alcohol.lo), .v (.int .i64 (outOf z).2.1.alcohol.hi)], .v (.int .i64 (outOf z).2.2)] (by kernel_rfl) rfl S ⟨fun _ => u, rfl, ?_, fun _ => hu, (HeldIn.mono ?_ (fun k _ (hk : w.heap.size ≤ k) => Nat.le_trans hsz hk)).and (.true fun _ => trivial)⟩
    · exact (hK.after hk2 (fun j (hj : j < W.heap.size) (h : j = E.ρ 2) => by exfalso; omega)).below (Nat.le_refl _) (fun k _ h => h)
    · exact hH.move hk2.size (fun k hlt (hR : w.heap.size ≤ k) => hk2.block k hlt (fun (h : k = E.ρ 2) => by omega))
end Go.Proofs.Ytnfahoomoelmcaa
