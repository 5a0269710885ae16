/- Models and walks, printed by program. -/
import Derived.Test.YtlcccomdijdkaaaSyR1
namespace Go.Proofs.Ytlcccomdijdkaaa
open Go.RowKit Go.Proofs.Try

abbrev bCells (x : MBurner) : List Value := [.int .i64 x.ready, .int .i64 x.due, .int .i64 x.hours, .int .i64 x.heat]
abbrev bQ (l : List MBurner) : Q := ⟨l.length, 4, fun i => bCells (l.getD i default)⟩
abbrev bGQ0 : GQ := ⟨67, 4, 0, []⟩
abbrev noR : Nat → Prop := fun _ => False
def growM (n : Int) : Option Unit :=
(bif decide (n < 0) then
(none)
else
(grd (InI64 (0 - 0) ∧ InI64 (n - (0 - 0))) <|
(bif decide (0 < (n - (0 - 0))) then
(grd (((0 : Int) < (n - (0 - 0)) ∧ ((n - (0 - 0)) : Int) ≤ 1000000)) <|
some ())
else
(some ()))))
set_option maxRecDepth 100000 in
set_option maxHeartbeats 4000000 in
theorem growM_ok (n : Int) (W : World) (res : Unit) (h : growM n = some res) : Calls Go.Proofs.Try.prog 69 #[.slice none 0 0, .int .i64 n] W fun e w' => ∃ u, e = .returned u ∧ Below W.heap.size W w' ∧ u.oneCell' = true ∧ HeldIn (fun k => W.heap.size ≤ k) w' (RowNew W.heap.size 0 bGQ0 fun _ => u) := by
  refine sym_call (f := 69) (fn := Go.Proofs.Try.f69) (c := Go.Proofs.Try.f69.body.get rfl) Go.Proofs.Try.func69 rfl [.v (.slice none 0 0), .v (.int .i64 n)] [] [] (envOf []) noR (fun _ _ => rfl) (by kernel_rfl) (envOf_one trivial) trivial trivial trivial fun E a w S => ?_
  rw [growM] at h
  refine sym_seq lay_ok mixed [] [0, 1] [] (⟨[(0, .v (.slice none 0 0)), (1, .v (.int .i64 n))], ⟨[], [], []⟩⟩) [] S (by kernel_rfl) (by kernel_rfl) (by kernel_rfl) trivial ?_
  clear S; intro E a w S
  refine wp_seq ?_
  refine sym_seq lay_ok mixed [] [0, 1, 6] [] (⟨[(0, .v (.slice none 0 0)), (1, .v (.int .i64 n)), (6, .v (.bool (decide (n < 0))))], ⟨[], [], []⟩⟩) [] S (by kernel_rfl) (by kernel_rfl) (by kernel_rfl) trivial ?_
  clear S; intro E a w S
  refine sym_if_last (b := decide (n < 0)) S rfl (fun hb1 => ?_) (fun hb1 => ?_)
  · have h := bif_t hb1 h
    cases h
  · have h := bif_f hb1 h
    refine wp_skip ?_
    refine out_then_normal ?_
    refine wp_seq ?_
    obtain ⟨⟨g1, g2⟩, h⟩ := grd_some h
    refine sym_seq lay_ok mixed [(2, { px := some (.v (.int .i64 0)) })] [0, 1] [] (⟨[(0, .v (.slice none 0 0)), (1, .v (.int .i64 (n - (0 - 0))))], ⟨[], [], []⟩⟩) [.pure ⟨[], [], []⟩ (.call ⟨.builtin .cap, #[.tmp 9], #[42]⟩) [.v (.slice none 0 0)] (.v (.int .i64 0)), .rng .i64 (0 - 0), .rng .i64 (n - (0 - 0))] S (by kernel_rfl) (by kernel_rfl) (by kernel_rfl) ⟨pure_capNil lay_ok rfl, rngI64 g1, rngI64 g2, trivial⟩ ?_
    clear S; intro E a w S
    refine sym_seq lay_ok mixed [] [0, 1, 16] [] (⟨[(0, .v (.slice none 0 0)), (1, .v (.int .i64 (n - (0 - 0)))), (16, .v (.bool (decide (0 < (n - (0 - 0))))))], ⟨[], [], []⟩⟩) [] S (by kernel_rfl) (by kernel_rfl) (by kernel_rfl) trivial ?_
    clear S; intro E a w S
    refine sym_if_last (b := decide (0 < (n - (0 - 0)))) S rfl (fun hb2 => ?_) (fun hb2 => ?_)
    · have h := bif_t hb2 h
      obtain ⟨g3, h⟩ := grd_some h
      refine sym_last lay_ok mixed [(2, { px := some (.v (.int .i64 0)) }), (3, { px := some (.v (.slice none 0 0)) }), (5, { g := 0, hx := some (ZRow ⟨67, 4, 0, []⟩ (Int.toNat (n - (0 - 0)))), px := some (.ltr 0 0) }), (8, { fp := [0], px := some (.ltr 0 1) })] [0] [0] (⟨[(0, .ltr 0 1)], ⟨[(0, .held (ZRow ⟨67, 4, 0, []⟩ (Int.toNat (n - (0 - 0)))))], [], []⟩⟩) [.pure ⟨[], [], []⟩ (.call ⟨.builtin .cap, #[.tmp 18], #[42]⟩) [.v (.slice none 0 0)] (.v (.int .i64 0)), .pure ⟨[], [], []⟩ (.slice 42 (.tmp 17) none (some (.tmp 19)) none) [.v (.slice none 0 0), .v (.int .i64 0)] (.v (.slice none 0 0)), .ext 0 (.call ⟨.builtin .append, #[.tmp 20, .tmp 21], #[42, 3]⟩) [.v (.slice none 0 0), .v (.int .i64 (n - (0 - 0)))] (.ltr 0 0) (ZRow ⟨67, 4, 0, []⟩ (Int.toNat (n - (0 - 0)))), .pure ⟨[(0, .held (ZRow ⟨67, 4, 0, []⟩ (Int.toNat (n - (0 - 0)))))], [], []⟩ (.slice 42 (.tmp 22) none (some (.tmp 24)) none) [.ltr 0 0, .v (.int .i64 0)] (.ltr 0 1)] S (by kernel_rfl) (by kernel_rfl) (by kernel_rfl) ⟨pure_capNil lay_ok rfl, pure_sliceNil lay_ok rfl, zrow_ext (d := ⟨.str [(0, 1, false), (1, 1, false), (2, 1, false), (3, 1, false)], 4, [.int .i64 0, .int .i64 0, .int .i64 0, .int .i64 0], false, 32⟩) lay_ok rfl rfl rfl rfl (show 0 < 4 by decide) (show 32 ≤ 1000 by decide) g3, pure_sliceZ lay_ok rfl rfl, trivial⟩ ?_
      clear S; intro E a w S
      refine out_then_normal ?_
      refine sym_seq lay_ok mixed [] [4] [0] (⟨[(4, .ltr 0 1)], ⟨[(0, .held (ZRow ⟨67, 4, 0, []⟩ (Int.toNat (n - (0 - 0)))))], [], []⟩⟩) [] S (by kernel_rfl) (by kernel_rfl) (by kernel_rfl) trivial ?_
      clear S; intro E a w S
      refine wp_ret ?_
      have h := Option.some.inj h
      subst h
      have hH := (S.sep.held 0 _ rfl).mono (R' := fun k => W.heap.size ≤ k) (fun k _ h => h.2.elim id (fun h => h.elim))
      have hG := hH.imp (fun w h => h.choose_spec.choose_spec.2.2)
      exact sym_ret lay_ok [.ltr 0 1] (by kernel_rfl) rfl S ⟨_, rfl, S.below rfl, S.mem.one 0 1, GrAt.held (v := fun _ => E.x 0 1) hG.out (HeldIn.gr hG (fun _ h => h))⟩
    · have h := bif_f hb2 h
      refine wp_skip ?_
      refine out_then_normal ?_
      refine sym_seq lay_ok mixed [] [4] [] (⟨[(4, .v (.slice none 0 0))], ⟨[], [], []⟩⟩) [] S (by kernel_rfl) (by kernel_rfl) (by kernel_rfl) trivial ?_
      clear S; intro E a w S
      refine wp_ret ?_
      have h := Option.some.inj h
      subst h
      exact sym_ret lay_ok [.v (.slice none 0 0)] (by kernel_rfl) rfl S ⟨_, rfl, S.below rfl, rfl, GrAt.held (v := fun _ => .slice none 0 0) (World.ownsRow_nil _ _ _ _) (fun b hb => by simp [Value.ownBlock] at hb)⟩
def concatM (l1 l2 : List MBurner) : Option (List MBurner) :=
grd (InI64 (0 + ((l1.length : Nat) : Int))) <|
(bif decide ((0 + ((l1.length : Nat) : Int)) < 0) then
(none)
else
(grd (InI64 ((0 + ((l1.length : Nat) : Int)) + ((l2.length : Nat) : Int))) <|
(bif decide (((0 + ((l1.length : Nat) : Int)) + ((l2.length : Nat) : Int)) < 0) then
(none)
else
((growM ((0 + ((l1.length : Nat) : Int)) + ((l2.length : Nat) : Int))).bind fun (r1 : Unit) =>
grd ((([] : List MBurner).length + l1.length ≤ 1000000)) <|
grd (((([] : List MBurner) ++ l1).length + l2.length ≤ 1000000)) <|
some ((([] : List MBurner) ++ l1) ++ l2)))))
set_option maxRecDepth 100000 in
set_option maxHeartbeats 4000000 in
theorem concatM_ok (l1 l2 : List MBurner) (W : World) (b : Nat) (A1 A2 : Option Addr) (c1 c2 : Nat) (hB : Blk W b 42 #[.slice A1 l1.length c1, .slice A2 l2.length c2]) (h1 : l1.length ≤ c1) (s1 : SlAt W A1 l1.length 4 fun i => bCells (l1.getD i default)) (h2 : l2.length ≤ c2) (s2 : SlAt W A2 l2.length 4 fun i => bCells (l2.getD i default)) (res : List MBurner) (h : concatM l1 l2 = some res) :
    Calls Go.Proofs.Try.prog 64 #[.slice (some ⟨b, 0, none⟩) 2 2] W fun e w' => ∃ v : Nat → Value, e = .returned (v 0) ∧ Below W.heap.size W w' ∧ (∀ i, (v i).oneCell' = true) ∧ HeldIn (fun k => W.heap.size ≤ k) w' (SlicesAre 0 [bQ res] v) := by
  have hlt : ∀ s q b9 off, look [(0, bQ l1), (1, bQ l2)] s = some q → 0 < q.len → ((envOf [(0, ⟨A1, l1.length, c1, 4⟩), (1, ⟨A2, l2.length, c2, 4⟩)]).sl s).A = some ⟨b9, off, none⟩ → b9 < W.heap.size := fun s q b9 off hq hl hA => by
    rcases look_cases hq with ⟨rfl, rfl⟩ | ⟨_, h9⟩
    · obtain ⟨b2, o2, hA2, hlt, _⟩ := s1 hl
      have : some (⟨b2, o2, none⟩ : Addr) = some ⟨b9, off, none⟩ := hA2.symm.trans hA
      injection this with e; injection e with e1; omega
    · rcases look_cases h9 with ⟨rfl, rfl⟩ | ⟨_, h9⟩
      · obtain ⟨b2, o2, hA2, hlt, _⟩ := s2 hl
        have : some (⟨b2, o2, none⟩ : Addr) = some ⟨b9, off, none⟩ := hA2.symm.trans hA
        injection this with e; injection e with e1; omega
      · simp [look] at h9
  refine sym_closure (f := 64) (fn := Go.Proofs.Try.f64) (c := Go.Proofs.Try.f64.body.get rfl) Go.Proofs.Try.func64 rfl [.row 1000 0 2 2] [(0, bQ l1), (1, bQ l2)] [(0, ⟨A1, l1.length, c1, 4⟩), (1, ⟨A2, l2.length, c2, 4⟩)] [⟨1000, b, 42, [.sl 0, .sl 1]⟩] [(1000, .blk 42 [.sl 0, .sl 1])] rfl (by kernel_rfl) ⟨hB, trivial⟩ ⟨trivial, trivial⟩ ⟨s1.rd h1, s2.rd h2, trivial⟩ ⟨rd_ne_row hB s1 ⟨_, _, rfl⟩, rd_ne_row hB s2 ⟨_, _, rfl⟩, trivial⟩ fun E a w S => ?_
  rw [concatM] at h
  refine sym_seq lay_ok mixed [] [0] [1000] (⟨[(0, .row 1000 0 2 2)], ⟨[(1000, .blk 42 [.sl 0, .sl 1])], [(0, bQ l1), (1, bQ l2)], []⟩⟩) [] S (by kernel_rfl) (by kernel_rfl) (by kernel_rfl) trivial ?_
  clear S; intro E a w S
  refine sym_seq lay_ok mixed [] [0, 3] [1000] (⟨[(0, .row 1000 0 2 2), (3, .v (.int .i64 0))], ⟨[(1000, .blk 42 [.sl 0, .sl 1])], [(0, bQ l1), (1, bQ l2)], []⟩⟩) [] S (by kernel_rfl) (by kernel_rfl) (by kernel_rfl) trivial ?_
  clear S; intro E a w S
  refine wp_seq ?_
  refine sym_seq lay_ok mixed [] [0, 3, 9, 10, 11] [1000] (⟨[(0, .row 1000 0 2 2), (3, .v (.int .i64 0)), (9, .row 1000 0 2 2), (10, .v (.int .i64 2)), (11, .v (.int .i64 0))], ⟨[(1000, .blk 42 [.sl 0, .sl 1])], [(0, bQ l1), (1, bQ l2)], []⟩⟩) [] S (by kernel_rfl) (by kernel_rfl) (by kernel_rfl) trivial ?_
  clear S; intro E a w S
  refine wp_block ?_
  refine wp_loop_rounds 20 ?_
  rw [show (20 : Nat) = 19 + 1 from rfl, rounds_succ]
  have S := St.pickG S [0, 3, 9, 10, 11] [1000] [] (⟨[(0, .row 1000 0 2 2), (3, .v (.int .i64 0)), (9, .row 1000 0 2 2), (10, .v (.int .i64 2)), (11, .v (.int .i64 0))], ⟨[(1000, .blk 42 [.sl 0, .sl 1])], [(0, bQ l1), (1, bQ l2)], []⟩⟩) (by kernel_rfl)
  refine sym_seq lay_ok mixed [] [0, 3, 9, 10, 11, 12] [1000] (⟨[(0, .row 1000 0 2 2), (3, .v (.int .i64 0)), (9, .row 1000 0 2 2), (10, .v (.int .i64 2)), (11, .v (.int .i64 0)), (12, .v (.bool true))], ⟨[(1000, .blk 42 [.sl 0, .sl 1])], [(0, bQ l1), (1, bQ l2)], []⟩⟩) [] S (by kernel_rfl) (by kernel_rfl) (by kernel_rfl) trivial ?_
  clear S; intro E a w S
  refine sym_if (b := true) S rfl (fun _ => ?_) (fun hb => absurd hb (by decide))
  refine wp_skip ?_
  refine out_then_normal ?_
  refine wp_seq ?_
  refine wp_block ?_
  refine sym_seq lay_ok mixed [(0, { px := some (.own 1000 0) })] [0, 3, 9, 10, 11, 5] [1000] (⟨[(0, .row 1000 0 2 2), (3, .v (.int .i64 0)), (9, .row 1000 0 2 2), (10, .v (.int .i64 2)), (11, .v (.int .i64 0)), (5, .sl 0)], ⟨[(1000, .blk 42 [.sl 0, .sl 1])], [(0, bQ l1), (1, bQ l2)], []⟩⟩) [.pure ⟨[], [(0, bQ l1), (1, bQ l2)], []⟩ (.indexAddr 111 (.tmp 9) (.tmp 11)) [.row 1000 0 2 2, .v (.int .i64 0)] (.own 1000 0)] S (by kernel_rfl) (by kernel_rfl) (by kernel_rfl) ⟨pure_idxRow (j := 0) (es := 1) (e := 42) lay_ok rfl (show 0 < 2 by decide), trivial⟩ ?_
  clear S; intro E a w S
  obtain ⟨g1, h⟩ := grd_some h
  refine sym_seq lay_ok mixed [] [0, 3, 9, 10, 11] [1000] (⟨[(0, .row 1000 0 2 2), (3, .v (.int .i64 (0 + ((l1.length : Nat) : Int)))), (9, .row 1000 0 2 2), (10, .v (.int .i64 2)), (11, .v (.int .i64 0))], ⟨[(1000, .blk 42 [.sl 0, .sl 1])], [(0, bQ l1), (1, bQ l2)], []⟩⟩) [.rng .i64 (0 + ((l1.length : Nat) : Int))] S (by kernel_rfl) (by kernel_rfl) (by kernel_rfl) ⟨rngI64 g1, trivial⟩ ?_
  clear S; intro E a w S
  refine sym_seq lay_ok mixed [] [0, 3, 9, 10, 11, 20] [1000] (⟨[(0, .row 1000 0 2 2), (3, .v (.int .i64 (0 + ((l1.length : Nat) : Int)))), (9, .row 1000 0 2 2), (10, .v (.int .i64 2)), (11, .v (.int .i64 0)), (20, .v (.bool (decide ((0 + ((l1.length : Nat) : Int)) < 0))))], ⟨[(1000, .blk 42 [.sl 0, .sl 1])], [(0, bQ l1), (1, bQ l2)], []⟩⟩) [] S (by kernel_rfl) (by kernel_rfl) (by kernel_rfl) trivial ?_
  clear S; intro E a w S
  refine sym_if_last (b := decide ((0 + ((l1.length : Nat) : Int)) < 0)) S rfl (fun hb1 => ?_) (fun hb1 => ?_)
  · have h := bif_t hb1 h
    cases h
  · have h := bif_f hb1 h
    refine wp_skip ?_
    refine out_block_normal ?_
    refine out_then_normal ?_
    refine sym_last lay_ok mixed [] [0, 3, 9, 10, 11] [1000] (⟨[(0, .row 1000 0 2 2), (3, .v (.int .i64 (0 + ((l1.length : Nat) : Int)))), (9, .row 1000 0 2 2), (10, .v (.int .i64 2)), (11, .v (.int .i64 1))], ⟨[(1000, .blk 42 [.sl 0, .sl 1])], [(0, bQ l1), (1, bQ l2)], []⟩⟩) [.rng .i64 1] S (by kernel_rfl) (by kernel_rfl) (by kernel_rfl) ⟨(by decide : IntKind.i64.wrap 1 = 1), trivial⟩ ?_
    clear S; intro E a w S
    refine out_then_normal ?_
    rw [show (19 : Nat) = 18 + 1 from rfl, rounds_succ]
    have S := St.pickG S [0, 3, 9, 10, 11] [1000] [] (⟨[(0, .row 1000 0 2 2), (3, .v (.int .i64 (0 + ((l1.length : Nat) : Int)))), (9, .row 1000 0 2 2), (10, .v (.int .i64 2)), (11, .v (.int .i64 1))], ⟨[(1000, .blk 42 [.sl 0, .sl 1])], [(0, bQ l1), (1, bQ l2)], []⟩⟩) (by kernel_rfl)
    refine sym_seq lay_ok mixed [] [0, 3, 9, 10, 11, 12] [1000] (⟨[(0, .row 1000 0 2 2), (3, .v (.int .i64 (0 + ((l1.length : Nat) : Int)))), (9, .row 1000 0 2 2), (10, .v (.int .i64 2)), (11, .v (.int .i64 1)), (12, .v (.bool true))], ⟨[(1000, .blk 42 [.sl 0, .sl 1])], [(0, bQ l1), (1, bQ l2)], []⟩⟩) [] S (by kernel_rfl) (by kernel_rfl) (by kernel_rfl) trivial ?_
    clear S; intro E a w S
    refine sym_if (b := true) S rfl (fun _ => ?_) (fun hb => absurd hb (by decide))
    refine wp_skip ?_
    refine out_then_normal ?_
    refine wp_seq ?_
    refine wp_block ?_
    refine sym_seq lay_ok mixed [(0, { px := some (.own 1000 1) })] [0, 3, 9, 10, 11, 5] [1000] (⟨[(0, .row 1000 0 2 2), (3, .v (.int .i64 (0 + ((l1.length : Nat) : Int)))), (9, .row 1000 0 2 2), (10, .v (.int .i64 2)), (11, .v (.int .i64 1)), (5, .sl 1)], ⟨[(1000, .blk 42 [.sl 0, .sl 1])], [(0, bQ l1), (1, bQ l2)], []⟩⟩) [.pure ⟨[], [(0, bQ l1), (1, bQ l2)], []⟩ (.indexAddr 111 (.tmp 9) (.tmp 11)) [.row 1000 0 2 2, .v (.int .i64 1)] (.own 1000 1)] S (by kernel_rfl) (by kernel_rfl) (by kernel_rfl) ⟨pure_idxRow (j := 1) (es := 1) (e := 42) lay_ok rfl (show 1 < 2 by decide), trivial⟩ ?_
    clear S; intro E a w S
    obtain ⟨g2, h⟩ := grd_some h
    refine sym_seq lay_ok mixed [] [0, 3, 9, 10, 11] [1000] (⟨[(0, .row 1000 0 2 2), (3, .v (.int .i64 ((0 + ((l1.length : Nat) : Int)) + ((l2.length : Nat) : Int)))), (9, .row 1000 0 2 2), (10, .v (.int .i64 2)), (11, .v (.int .i64 1))], ⟨[(1000, .blk 42 [.sl 0, .sl 1])], [(0, bQ l1), (1, bQ l2)], []⟩⟩) [.rng .i64 ((0 + ((l1.length : Nat) : Int)) + ((l2.length : Nat) : Int))] S (by kernel_rfl) (by kernel_rfl) (by kernel_rfl) ⟨rngI64 g2, trivial⟩ ?_
    clear S; intro E a w S
    refine sym_seq lay_ok mixed [] [0, 3, 9, 10, 11, 20] [1000] (⟨[(0, .row 1000 0 2 2), (3, .v (.int .i64 ((0 + ((l1.length : Nat) : Int)) + ((l2.length : Nat) : Int)))), (9, .row 1000 0 2 2), (10, .v (.int .i64 2)), (11, .v (.int .i64 1)), (20, .v (.bool (decide (((0 + ((l1.length : Nat) : Int)) + ((l2.length : Nat) : Int)) < 0))))], ⟨[(1000, .blk 42 [.sl 0, .sl 1])], [(0, bQ l1), (1, bQ l2)], []⟩⟩) [] S (by kernel_rfl) (by kernel_rfl) (by kernel_rfl) trivial ?_
    clear S; intro E a w S
    refine sym_if_last (b := decide (((0 + ((l1.length : Nat) : Int)) + ((l2.length : Nat) : Int)) < 0)) S rfl (fun hb2 => ?_) (fun hb2 => ?_)
    · have h := bif_t hb2 h
      cases h
    · have h := bif_f hb2 h
      refine wp_skip ?_
      refine out_block_normal ?_
      refine out_then_normal ?_
      refine sym_last lay_ok mixed [] [0, 3, 9, 10, 11] [1000] (⟨[(0, .row 1000 0 2 2), (3, .v (.int .i64 ((0 + ((l1.length : Nat) : Int)) + ((l2.length : Nat) : Int)))), (9, .row 1000 0 2 2), (10, .v (.int .i64 2)), (11, .v (.int .i64 2))], ⟨[(1000, .blk 42 [.sl 0, .sl 1])], [(0, bQ l1), (1, bQ l2)], []⟩⟩) [.rng .i64 2] S (by kernel_rfl) (by kernel_rfl) (by kernel_rfl) ⟨(by decide : IntKind.i64.wrap 2 = 2), trivial⟩ ?_
      clear S; intro E a w S
      refine out_then_normal ?_
      rw [show (18 : Nat) = 17 + 1 from rfl, rounds_succ]
      have S := St.pickG S [0, 3, 9, 10, 11] [1000] [] (⟨[(0, .row 1000 0 2 2), (3, .v (.int .i64 ((0 + ((l1.length : Nat) : Int)) + ((l2.length : Nat) : Int)))), (9, .row 1000 0 2 2), (10, .v (.int .i64 2)), (11, .v (.int .i64 2))], ⟨[(1000, .blk 42 [.sl 0, .sl 1])], [(0, bQ l1), (1, bQ l2)], []⟩⟩) (by kernel_rfl)
      refine sym_seq lay_ok mixed [] [0, 3, 9, 10, 11, 12] [1000] (⟨[(0, .row 1000 0 2 2), (3, .v (.int .i64 ((0 + ((l1.length : Nat) : Int)) + ((l2.length : Nat) : Int)))), (9, .row 1000 0 2 2), (10, .v (.int .i64 2)), (11, .v (.int .i64 2)), (12, .v (.bool false))], ⟨[(1000, .blk 42 [.sl 0, .sl 1])], [(0, bQ l1), (1, bQ l2)], []⟩⟩) [] S (by kernel_rfl) (by kernel_rfl) (by kernel_rfl) trivial ?_
      clear S; intro E a w S
      refine sym_if (b := false) S rfl (fun hb => absurd hb (by decide)) (fun _ => ?_)
      refine wp_exit ?_
      refine out_then_exit ?_
      refine out_then_exit ?_
      refine out_block_here ?_
      refine out_then_normal ?_
      obtain ⟨r1, e1, h⟩ := bind_some h
      refine sym_seq lay_ok mixed [(1, { g := 0, res := .ltr 0 0, hx := some (RowNew W.heap.size 0 ⟨67, 4, ([] : List MBurner).length, ([] : List MBurner).flatMap (fun x => [.int .i64 x.ready, .int .i64 x.due, .int .i64 x.hours, .int .i64 x.heat])⟩) })] [0, 6] [1000, 0] (⟨[(0, .row 1000 0 2 2), (6, .ltr 0 0)], ⟨[(1000, .blk 42 [.sl 0, .sl 1]), (0, .held (RowNew W.heap.size 0 ⟨67, 4, ([] : List MBurner).length, ([] : List MBurner).flatMap (fun x => [.int .i64 x.ready, .int .i64 x.due, .int .i64 x.hours, .int .i64 x.heat])⟩))], [(0, bQ l1), (1, bQ l2)], []⟩⟩) [.callx ⟨[], [(0, bQ l1), (1, bQ l2)], []⟩ 0 69 [.v (.slice none 0 0), .v (.int .i64 ((0 + ((l1.length : Nat) : Int)) + ((l2.length : Nat) : Int)))] (.ltr 0 0) (RowNew W.heap.size 0 ⟨67, 4, ([] : List MBurner).length, ([] : List MBurner).flatMap (fun x => [.int .i64 x.ready, .int .i64 x.due, .int .i64 x.hours, .int .i64 x.heat])⟩)] S (by kernel_rfl) (by kernel_rfl) (by kernel_rfl) ⟨⟨enters_69, fun E W' _ hm => by simp only [SV.vals, SV.val, Env.updX_same]; exact (growM_ok ((0 + ((l1.length : Nat) : Int)) + ((l2.length : Nat) : Int)) W' r1 e1).mono fun e w' hx => by obtain ⟨u, h1, h2, h3, h4⟩ := hx; exact ⟨fun _ => u, h1, h2, fun _ => h3, (h4.imp fun w hx => ⟨hx.1, fun b hb => Nat.le_trans hm.size (hx.2 b hb)⟩).mono fun _ _ h => .inl h⟩⟩, trivial⟩ ?_
      clear S; intro E a w S
      have S := S.takegr 0 0 0 rfl ⟨67, 4, ([] : List MBurner).length, ([] : List MBurner).flatMap (fun x => [.int .i64 x.ready, .int .i64 x.due, .int .i64 x.hours, .int .i64 x.heat])⟩ (fun _ _ h => h) rfl [0, 6] [1000] (by kernel_rfl) (fun s q b9 off hq hl hA => by have hs : s < 1000 := lowL_ok (l := [(0, bQ l1), (1, bQ l2)]) (by kernel_rfl) s q hq; rw [S.pin.2.1 s hs] at hA; exact hlt s q b9 off hq hl hA)
      have S := S.reslot (t := 6) (sv' := .gr 0) rfl (by simp [SV.val, SV.subG, Env.updG])
      obtain ⟨E, S⟩ : ∃ E, St ⟨W, inCB [⟨1000, b, 42, [.sl 0, .sl 1]⟩], Go.Proofs.Try.f64.ntmps, [], allR, rhoOf [⟨1000, b, 42, [.sl 0, .sl 1]⟩], (envOf [(0, ⟨A1, l1.length, c1, 4⟩), (1, ⟨A2, l2.length, c2, 4⟩)]).sl, (envOf [(0, ⟨A1, l1.length, c1, 4⟩), (1, ⟨A2, l2.length, c2, 4⟩)]).x⟩ (⟨[(0, .row 1000 0 2 2), (6, .gr 0)], ⟨[(1000, .blk 42 [.sl 0, .sl 1])], [(0, bQ l1), (1, bQ l2)], [(0, ⟨67, 4, ([] : List MBurner).length, ([] : List MBurner).flatMap (fun x => [.int .i64 x.ready, .int .i64 x.due, .int .i64 x.hours, .int .i64 x.heat])⟩)]⟩⟩) E a w := ⟨_, St.pickG S [0, 6] [1000] [0] (⟨[(0, .row 1000 0 2 2), (6, .gr 0)], ⟨[(1000, .blk 42 [.sl 0, .sl 1])], [(0, bQ l1), (1, bQ l2)], [(0, ⟨67, 4, ([] : List MBurner).length, ([] : List MBurner).flatMap (fun x => [.int .i64 x.ready, .int .i64 x.due, .int .i64 x.hours, .int .i64 x.heat])⟩)]⟩⟩) (by kernel_rfl)⟩
      refine wp_seq ?_
      refine sym_seq lay_ok mixed [] [6, 25, 26, 27] [1000] (⟨[(6, .gr 0), (25, .row 1000 0 2 2), (26, .v (.int .i64 2)), (27, .v (.int .i64 0))], ⟨[(1000, .blk 42 [.sl 0, .sl 1])], [(0, bQ l1), (1, bQ l2)], [(0, ⟨67, 4, ([] : List MBurner).length, ([] : List MBurner).flatMap (fun x => [.int .i64 x.ready, .int .i64 x.due, .int .i64 x.hours, .int .i64 x.heat])⟩)]⟩⟩) [] S (by kernel_rfl) (by kernel_rfl) (by kernel_rfl) trivial ?_
      clear S; intro E a w S
      refine wp_block ?_
      refine wp_loop_rounds 20 ?_
      rw [show (20 : Nat) = 19 + 1 from rfl, rounds_succ]
      have S := St.pickG S [6, 25, 26, 27] [1000] [0] (⟨[(6, .gr 0), (25, .row 1000 0 2 2), (26, .v (.int .i64 2)), (27, .v (.int .i64 0))], ⟨[(1000, .blk 42 [.sl 0, .sl 1])], [(0, bQ l1), (1, bQ l2)], [(0, ⟨67, 4, ([] : List MBurner).length, ([] : List MBurner).flatMap (fun x => [.int .i64 x.ready, .int .i64 x.due, .int .i64 x.hours, .int .i64 x.heat])⟩)]⟩⟩) (by kernel_rfl)
      refine sym_seq lay_ok mixed [] [6, 25, 26, 27, 28] [1000] (⟨[(6, .gr 0), (25, .row 1000 0 2 2), (26, .v (.int .i64 2)), (27, .v (.int .i64 0)), (28, .v (.bool true))], ⟨[(1000, .blk 42 [.sl 0, .sl 1])], [(0, bQ l1), (1, bQ l2)], [(0, ⟨67, 4, ([] : List MBurner).length, ([] : List MBurner).flatMap (fun x => [.int .i64 x.ready, .int .i64 x.due, .int .i64 x.hours, .int .i64 x.heat])⟩)]⟩⟩) [] S (by kernel_rfl) (by kernel_rfl) (by kernel_rfl) trivial ?_
      clear S; intro E a w S
      refine sym_if (b := true) S rfl (fun _ => ?_) (fun hb => absurd hb (by decide))
      refine wp_skip ?_
      refine out_then_normal ?_
      refine wp_seq ?_
      refine wp_block ?_
      refine sym_seq lay_ok mixed [(0, { px := some (.own 1000 0) })] [6, 25, 26, 27, 8] [1000] (⟨[(6, .gr 0), (25, .row 1000 0 2 2), (26, .v (.int .i64 2)), (27, .v (.int .i64 0)), (8, .sl 0)], ⟨[(1000, .blk 42 [.sl 0, .sl 1])], [(0, bQ l1), (1, bQ l2)], [(0, ⟨67, 4, ([] : List MBurner).length, ([] : List MBurner).flatMap (fun x => [.int .i64 x.ready, .int .i64 x.due, .int .i64 x.hours, .int .i64 x.heat])⟩)]⟩⟩) [.pure ⟨[], [(0, bQ l1), (1, bQ l2)], [(0, ⟨67, 4, ([] : List MBurner).length, ([] : List MBurner).flatMap (fun x => [.int .i64 x.ready, .int .i64 x.due, .int .i64 x.hours, .int .i64 x.heat])⟩)]⟩ (.indexAddr 111 (.tmp 25) (.tmp 27)) [.row 1000 0 2 2, .v (.int .i64 0)] (.own 1000 0)] S (by kernel_rfl) (by kernel_rfl) (by kernel_rfl) ⟨pure_idxRow (j := 0) (es := 1) (e := 42) lay_ok rfl (show 0 < 2 by decide), trivial⟩ ?_
      clear S; intro E a w S
      obtain ⟨g3, h⟩ := grd_some h
      refine sym_open_last ?_
      refine sym_runP lay_ok [] 0 2 [6, 25, 26, 27, 31, 32] [1000] (⟨[(6, .gr 0), (25, .row 1000 0 2 2), (26, .v (.int .i64 2)), (27, .v (.int .i64 0)), (31, .gr 0), (32, .sl 0)], ⟨[(1000, .blk 42 [.sl 0, .sl 1])], [(0, bQ l1), (1, bQ l2)], [(0, ⟨67, 4, ([] : List MBurner).length, ([] : List MBurner).flatMap (fun x => [.int .i64 x.ready, .int .i64 x.due, .int .i64 x.hours, .int .i64 x.heat])⟩)]⟩⟩) [] S (by kernel_rfl) (by kernel_rfl) trivial ?_
      clear S; intro E a w S
      refine sym_appendS lay_ok rfl (.tmp 31) (.tmp 32) 42 rfl rfl S 0 0 ⟨67, 4, ([] : List MBurner).length, ([] : List MBurner).flatMap (fun x => [.int .i64 x.ready, .int .i64 x.due, .int .i64 x.hours, .int .i64 x.heat])⟩ ⟨l1.length, 4, fun i => [.int .i64 ((l1.getD i default).ready), .int .i64 ((l1.getD i default).due), .int .i64 ((l1.getD i default).hours), .int .i64 ((l1.getD i default).heat)]⟩ ⟨.str [(0, 1, false), (1, 1, false), (2, 1, false), (3, 1, false)], 4, [.int .i64 0, .int .i64 0, .int .i64 0, .int .i64 0], false, 32⟩ ⟨.sli 67 4, 1, [.slice none 0 0], false, 24⟩ (l1.flatMap (fun x => [.int .i64 x.ready, .int .i64 x.due, .int .i64 x.hours, .int .i64 x.heat])) rfl rfl rfl rfl rfl rfl rfl rfl rfl (show 0 < 4 by decide) (flat_len (fun x => [.int .i64 x.ready, .int .i64 x.due, .int .i64 x.hours, .int .i64 x.heat]) 4 (fun _ => rfl) l1) (fun j v hv => flat_find (fun x => [.int .i64 x.ready, .int .i64 x.due, .int .i64 x.hours, .int .i64 x.heat]) 4 (fun _ => rfl) l1 j v hv) (fun v hv => by obtain ⟨x, _, hx⟩ := List.mem_flatMap.1 hv; simp only [List.mem_cons, List.not_mem_nil, or_false] at hx; rcases hx with rfl | rfl | rfl | rfl <;> rfl) (fun e he => by cases he; exact Nat.lt_of_succ_le (Nat.le_of_ble_eq_true rfl)) ⟨67, 4, (([] : List MBurner) ++ l1).length, (([] : List MBurner) ++ l1).flatMap (fun x => [.int .i64 x.ready, .int .i64 x.due, .int .i64 x.hours, .int .i64 x.heat])⟩ rfl rfl (by simp) (by simp) (Nat.le_trans g3 (by decide)) (show (([] : List MBurner).length + l1.length) * 32 ≤ 140737488355328 by have := g3; omega) ?_
      clear S; intro v0 E a w S; have S := St.pickG S [25, 26, 27, 32, 33] [1000] [0] (⟨[(25, .row 1000 0 2 2), (26, .v (.int .i64 2)), (27, .v (.int .i64 0)), (32, .sl 0), (33, .gr 0)], ⟨[(1000, .blk 42 [.sl 0, .sl 1])], [(0, bQ l1), (1, bQ l2)], [(0, ⟨67, 4, (([] : List MBurner) ++ l1).length, (([] : List MBurner) ++ l1).flatMap (fun x => [.int .i64 x.ready, .int .i64 x.due, .int .i64 x.hours, .int .i64 x.heat])⟩)]⟩⟩) (by kernel_rfl)
      refine sym_runP lay_ok [] 3 1 [25, 26, 27, 6] [1000] (⟨[(25, .row 1000 0 2 2), (26, .v (.int .i64 2)), (27, .v (.int .i64 0)), (6, .gr 0)], ⟨[(1000, .blk 42 [.sl 0, .sl 1])], [(0, bQ l1), (1, bQ l2)], [(0, ⟨67, 4, (([] : List MBurner) ++ l1).length, (([] : List MBurner) ++ l1).flatMap (fun x => [.int .i64 x.ready, .int .i64 x.due, .int .i64 x.hours, .int .i64 x.heat])⟩)]⟩⟩) [] S (by kernel_rfl) (by kernel_rfl) trivial ?_
      clear S; intro E a w S
      refine sym_done rfl ?_
      have S := St.pickG S [25, 26, 27, 6] [1000] [0] (⟨[(25, .row 1000 0 2 2), (26, .v (.int .i64 2)), (27, .v (.int .i64 0)), (6, .gr 0)], ⟨[(1000, .blk 42 [.sl 0, .sl 1])], [(0, bQ l1), (1, bQ l2)], [(0, ⟨67, 4, (([] : List MBurner) ++ l1).length, (([] : List MBurner) ++ l1).flatMap (fun x => [.int .i64 x.ready, .int .i64 x.due, .int .i64 x.hours, .int .i64 x.heat])⟩)]⟩⟩) (by kernel_rfl)
      refine out_block_normal ?_
      refine out_then_normal ?_
      refine sym_last lay_ok mixed [] [25, 26, 27, 6] [1000] (⟨[(25, .row 1000 0 2 2), (26, .v (.int .i64 2)), (27, .v (.int .i64 1)), (6, .gr 0)], ⟨[(1000, .blk 42 [.sl 0, .sl 1])], [(0, bQ l1), (1, bQ l2)], [(0, ⟨67, 4, (([] : List MBurner) ++ l1).length, (([] : List MBurner) ++ l1).flatMap (fun x => [.int .i64 x.ready, .int .i64 x.due, .int .i64 x.hours, .int .i64 x.heat])⟩)]⟩⟩) [.rng .i64 1] S (by kernel_rfl) (by kernel_rfl) (by kernel_rfl) ⟨(by decide : IntKind.i64.wrap 1 = 1), trivial⟩ ?_
      clear S; intro E a w S
      refine out_then_normal ?_
      rw [show (19 : Nat) = 18 + 1 from rfl, rounds_succ]
      have S := St.pickG S [25, 26, 27, 6] [1000] [0] (⟨[(25, .row 1000 0 2 2), (26, .v (.int .i64 2)), (27, .v (.int .i64 1)), (6, .gr 0)], ⟨[(1000, .blk 42 [.sl 0, .sl 1])], [(0, bQ l1), (1, bQ l2)], [(0, ⟨67, 4, (([] : List MBurner) ++ l1).length, (([] : List MBurner) ++ l1).flatMap (fun x => [.int .i64 x.ready, .int .i64 x.due, .int .i64 x.hours, .int .i64 x.heat])⟩)]⟩⟩) (by kernel_rfl)
      refine sym_seq lay_ok mixed [] [25, 26, 27, 6, 28] [1000] (⟨[(25, .row 1000 0 2 2), (26, .v (.int .i64 2)), (27, .v (.int .i64 1)), (6, .gr 0), (28, .v (.bool true))], ⟨[(1000, .blk 42 [.sl 0, .sl 1])], [(0, bQ l1), (1, bQ l2)], [(0, ⟨67, 4, (([] : List MBurner) ++ l1).length, (([] : List MBurner) ++ l1).flatMap (fun x => [.int .i64 x.ready, .int .i64 x.due, .int .i64 x.hours, .int .i64 x.heat])⟩)]⟩⟩) [] S (by kernel_rfl) (by kernel_rfl) (by kernel_rfl) trivial ?_
      clear S; intro E a w S
      refine sym_if (b := true) S rfl (fun _ => ?_) (fun hb => absurd hb (by decide))
      refine wp_skip ?_
      refine out_then_normal ?_
      refine wp_seq ?_
      refine wp_block ?_
      refine sym_seq lay_ok mixed [(0, { px := some (.own 1000 1) })] [25, 26, 27, 6, 8] [1000] (⟨[(25, .row 1000 0 2 2), (26, .v (.int .i64 2)), (27, .v (.int .i64 1)), (6, .gr 0), (8, .sl 1)], ⟨[(1000, .blk 42 [.sl 0, .sl 1])], [(0, bQ l1), (1, bQ l2)], [(0, ⟨67, 4, (([] : List MBurner) ++ l1).length, (([] : List MBurner) ++ l1).flatMap (fun x => [.int .i64 x.ready, .int .i64 x.due, .int .i64 x.hours, .int .i64 x.heat])⟩)]⟩⟩) [.pure ⟨[], [(0, bQ l1), (1, bQ l2)], [(0, ⟨67, 4, (([] : List MBurner) ++ l1).length, (([] : List MBurner) ++ l1).flatMap (fun x => [.int .i64 x.ready, .int .i64 x.due, .int .i64 x.hours, .int .i64 x.heat])⟩)]⟩ (.indexAddr 111 (.tmp 25) (.tmp 27)) [.row 1000 0 2 2, .v (.int .i64 1)] (.own 1000 1)] S (by kernel_rfl) (by kernel_rfl) (by kernel_rfl) ⟨pure_idxRow (j := 1) (es := 1) (e := 42) lay_ok rfl (show 1 < 2 by decide), trivial⟩ ?_
      clear S; intro E a w S
      obtain ⟨g4, h⟩ := grd_some h
      refine sym_open_last ?_
      refine sym_runP lay_ok [] 0 2 [25, 26, 27, 6, 31, 32] [1000] (⟨[(25, .row 1000 0 2 2), (26, .v (.int .i64 2)), (27, .v (.int .i64 1)), (6, .gr 0), (31, .gr 0), (32, .sl 1)], ⟨[(1000, .blk 42 [.sl 0, .sl 1])], [(0, bQ l1), (1, bQ l2)], [(0, ⟨67, 4, (([] : List MBurner) ++ l1).length, (([] : List MBurner) ++ l1).flatMap (fun x => [.int .i64 x.ready, .int .i64 x.due, .int .i64 x.hours, .int .i64 x.heat])⟩)]⟩⟩) [] S (by kernel_rfl) (by kernel_rfl) trivial ?_
      clear S; intro E a w S
      refine sym_appendS lay_ok rfl (.tmp 31) (.tmp 32) 42 rfl rfl S 0 1 ⟨67, 4, (([] : List MBurner) ++ l1).length, (([] : List MBurner) ++ l1).flatMap (fun x => [.int .i64 x.ready, .int .i64 x.due, .int .i64 x.hours, .int .i64 x.heat])⟩ ⟨l2.length, 4, fun i => [.int .i64 ((l2.getD i default).ready), .int .i64 ((l2.getD i default).due), .int .i64 ((l2.getD i default).hours), .int .i64 ((l2.getD i default).heat)]⟩ ⟨.str [(0, 1, false), (1, 1, false), (2, 1, false), (3, 1, false)], 4, [.int .i64 0, .int .i64 0, .int .i64 0, .int .i64 0], false, 32⟩ ⟨.sli 67 4, 1, [.slice none 0 0], false, 24⟩ (l2.flatMap (fun x => [.int .i64 x.ready, .int .i64 x.due, .int .i64 x.hours, .int .i64 x.heat])) rfl rfl rfl rfl rfl rfl rfl rfl rfl (show 0 < 4 by decide) (flat_len (fun x => [.int .i64 x.ready, .int .i64 x.due, .int .i64 x.hours, .int .i64 x.heat]) 4 (fun _ => rfl) l2) (fun j v hv => flat_find (fun x => [.int .i64 x.ready, .int .i64 x.due, .int .i64 x.hours, .int .i64 x.heat]) 4 (fun _ => rfl) l2 j v hv) (fun v hv => by obtain ⟨x, _, hx⟩ := List.mem_flatMap.1 hv; simp only [List.mem_cons, List.not_mem_nil, or_false] at hx; rcases hx with rfl | rfl | rfl | rfl <;> rfl) (fun e he => by cases he; exact Nat.lt_of_succ_le (Nat.le_of_ble_eq_true rfl)) ⟨67, 4, ((([] : List MBurner) ++ l1) ++ l2).length, ((([] : List MBurner) ++ l1) ++ l2).flatMap (fun x => [.int .i64 x.ready, .int .i64 x.due, .int .i64 x.hours, .int .i64 x.heat])⟩ rfl rfl (by simp) (by simp) (Nat.le_trans g4 (by decide)) (show ((([] : List MBurner) ++ l1).length + l2.length) * 32 ≤ 140737488355328 by have := g4; omega) ?_
      clear S; intro v0 E a w S; have S := St.pickG S [25, 26, 27, 32, 33] [1000] [0] (⟨[(25, .row 1000 0 2 2), (26, .v (.int .i64 2)), (27, .v (.int .i64 1)), (32, .sl 1), (33, .gr 0)], ⟨[(1000, .blk 42 [.sl 0, .sl 1])], [(0, bQ l1), (1, bQ l2)], [(0, ⟨67, 4, ((([] : List MBurner) ++ l1) ++ l2).length, ((([] : List MBurner) ++ l1) ++ l2).flatMap (fun x => [.int .i64 x.ready, .int .i64 x.due, .int .i64 x.hours, .int .i64 x.heat])⟩)]⟩⟩) (by kernel_rfl)
      refine sym_runP lay_ok [] 3 1 [25, 26, 27, 6] [1000] (⟨[(25, .row 1000 0 2 2), (26, .v (.int .i64 2)), (27, .v (.int .i64 1)), (6, .gr 0)], ⟨[(1000, .blk 42 [.sl 0, .sl 1])], [(0, bQ l1), (1, bQ l2)], [(0, ⟨67, 4, ((([] : List MBurner) ++ l1) ++ l2).length, ((([] : List MBurner) ++ l1) ++ l2).flatMap (fun x => [.int .i64 x.ready, .int .i64 x.due, .int .i64 x.hours, .int .i64 x.heat])⟩)]⟩⟩) [] S (by kernel_rfl) (by kernel_rfl) trivial ?_
      clear S; intro E a w S
      refine sym_done rfl ?_
      have S := St.pickG S [25, 26, 27, 6] [1000] [0] (⟨[(25, .row 1000 0 2 2), (26, .v (.int .i64 2)), (27, .v (.int .i64 1)), (6, .gr 0)], ⟨[(1000, .blk 42 [.sl 0, .sl 1])], [(0, bQ l1), (1, bQ l2)], [(0, ⟨67, 4, ((([] : List MBurner) ++ l1) ++ l2).length, ((([] : List MBurner) ++ l1) ++ l2).flatMap (fun x => [.int .i64 x.ready, .int .i64 x.due, .int .i64 x.hours, .int .i64 x.heat])⟩)]⟩⟩) (by kernel_rfl)
      refine out_block_normal ?_
      refine out_then_normal ?_
      refine sym_last lay_ok mixed [] [25, 26, 27, 6] [1000] (⟨[(25, .row 1000 0 2 2), (26, .v (.int .i64 2)), (27, .v (.int .i64 2)), (6, .gr 0)], ⟨[(1000, .blk 42 [.sl 0, .sl 1])], [(0, bQ l1), (1, bQ l2)], [(0, ⟨67, 4, ((([] : List MBurner) ++ l1) ++ l2).length, ((([] : List MBurner) ++ l1) ++ l2).flatMap (fun x => [.int .i64 x.ready, .int .i64 x.due, .int .i64 x.hours, .int .i64 x.heat])⟩)]⟩⟩) [.rng .i64 2] S (by kernel_rfl) (by kernel_rfl) (by kernel_rfl) ⟨(by decide : IntKind.i64.wrap 2 = 2), trivial⟩ ?_
      clear S; intro E a w S
      refine out_then_normal ?_
      rw [show (18 : Nat) = 17 + 1 from rfl, rounds_succ]
      have S := St.pickG S [25, 26, 27, 6] [1000] [0] (⟨[(25, .row 1000 0 2 2), (26, .v (.int .i64 2)), (27, .v (.int .i64 2)), (6, .gr 0)], ⟨[(1000, .blk 42 [.sl 0, .sl 1])], [(0, bQ l1), (1, bQ l2)], [(0, ⟨67, 4, ((([] : List MBurner) ++ l1) ++ l2).length, ((([] : List MBurner) ++ l1) ++ l2).flatMap (fun x => [.int .i64 x.ready, .int .i64 x.due, .int .i64 x.hours, .int .i64 x.heat])⟩)]⟩⟩) (by kernel_rfl)
      refine sym_seq lay_ok mixed [] [25, 26, 27, 6, 28] [1000] (⟨[(25, .row 1000 0 2 2), (26, .v (.int .i64 2)), (27, .v (.int .i64 2)), (6, .gr 0), (28, .v (.bool false))], ⟨[(1000, .blk 42 [.sl 0, .sl 1])], [(0, bQ l1), (1, bQ l2)], [(0, ⟨67, 4, ((([] : List MBurner) ++ l1) ++ l2).length, ((([] : List MBurner) ++ l1) ++ l2).flatMap (fun x => [.int .i64 x.ready, .int .i64 x.due, .int .i64 x.hours, .int .i64 x.heat])⟩)]⟩⟩) [] S (by kernel_rfl) (by kernel_rfl) (by kernel_rfl) trivial ?_
      clear S; intro E a w S
      refine sym_if (b := false) S rfl (fun hb => absurd hb (by decide)) (fun _ => ?_)
      refine wp_exit ?_
      refine out_then_exit ?_
      refine out_then_exit ?_
      refine out_block_here ?_
      refine out_then_normal ?_
      refine sym_seq lay_ok mixed [] [2] [1000] (⟨[(2, .gr 0)], ⟨[(1000, .blk 42 [.sl 0, .sl 1])], [(0, bQ l1), (1, bQ l2)], [(0, ⟨67, 4, ((([] : List MBurner) ++ l1) ++ l2).length, ((([] : List MBurner) ++ l1) ++ l2).flatMap (fun x => [.int .i64 x.ready, .int .i64 x.due, .int .i64 x.hours, .int .i64 x.heat])⟩)]⟩⟩) [] S (by kernel_rfl) (by kernel_rfl) (by kernel_rfl) trivial ?_
      clear S; intro E a w S
      refine wp_ret ?_
      have h := Option.some.inj h
      subst h
      have hnew : ∀ b9, (E.gr 0).ownBlock = some b9 → W.heap.size ≤ b9 := fun b9 hb9 => by
        rcases S.sep.ginj.2 0 _ b9 rfl hb9 with h9 | ⟨y, hy, e⟩
        · exact h9
        · rw [List.mem_singleton.1 hy] at e
          exact absurd (hb9.trans (congrArg some (e.symm.trans (S.pin.1 1000 (by decide)).symm))) (S.sep.mix 1000 0 _ _ _ rfl rfl)
      exact sym_ret lay_ok [.gr 0] (by kernel_rfl) rfl S ⟨vfun [E.gr 0], rfl, S.below_cb (cbs := [⟨1000, b, 42, [.sl 0, .sl 1]⟩]) (rds0 := [(0, ⟨A1, l1.length, c1, 4⟩), (1, ⟨A2, l2.length, c2, 4⟩)]) rfl rfl rfl ⟨rfl, trivial⟩ rfl ⟨trivial, trivial⟩ (show [1000].Nodup by decide) ⟨hB, trivial⟩ rfl, vfun_one [E.gr 0] ⟨(S.gr_one (k := 0) rfl), trivial⟩, ((S.mem.gr 0 _ rfl).slice hnew 0 (vfun [E.gr 0]) rfl _ (flat_get (fun x => [.int .i64 x.ready, .int .i64 x.due, .int .i64 x.hours, .int .i64 x.heat]) 4 (fun _ => rfl) ((([] : List MBurner) ++ l1) ++ l2))).and (HeldIn.true fun _ => trivial)⟩
end Go.Proofs.Ytlcccomdijdkaaa
