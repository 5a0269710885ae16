/- Models and walks, printed by program. -/
import Derived.Test.YtlcccomdijdkaaaSyHeat
namespace Go.Proofs.Ytlcccomdijdkaaa
open Go.RowKit Go.Proofs.Try

/-- a block that holds a limit -/
def LBox (limit : Int) (v : Nat → Value) (w : World) : Prop := ∃ b, v 0 = .pointer (some ⟨b, 0, none⟩) ∧ Blk w b 3 #[.int .i64 limit]
theorem LBox.of {W : World} {b : Nat} {limit : Int} (h : Blk W b 3 #[.int .i64 limit]) : HeldIn allR W (LBox limit fun _ => .pointer (some ⟨b, 0, none⟩)) :=
  ⟨fun k => k = b, fun k hk => by subst hk; exact ⟨h.lt, trivial⟩, fun w' hw => ⟨b, rfl, (hw b rfl).trans h⟩⟩
abbrev wQ (l : List MWater) : Q := ⟨l.length, 4, fun i => wCells (l.getD i default)⟩
theorem pure_shr1 {P : Program} {B : Nat} {m : MState} {k : IntKind} {a : Int} {t t' : TypeId} {x : Operand} (h : 0 ≤ a) : (Ob.pure m (.binOp .shr t x (.const (.int k 1)) t') [.v (.int k a), .v (.int k 1)] (.v (.int k (a / 2)))).holds P B := by
  intro E w R ρ dst ty pos aft gd _ hx
  have hx' : ρ x = .int k a ∧ ρ (.const (.int k 1)) = .int k 1 := by simpa [Op.operands, SV.vals, SV.val] using hx
  have hn : min (Int.toNat 1) k.bits = 1 := by cases k <;> rfl
  have hf : a.fdiv (2 ^ 1) = a / 2 := by rw [show (2 : Int) ^ 1 = 2 from rfl, Int.fdiv_eq_ediv_of_nonneg _ (by decide)]
  simp only [execOp, hx'.1, hx'.2, eqGuard, binOp, Op.shift, SV.val, Sem.run_bind, Sem.run_pure, Result.andThen_ok]
  have h10 : ¬ ((1 : Int) < 0) := by decide
  simp only [h10, if_false, hn, hf, Sem.run_pure, Result.andThen_ok]
  simp [Sem.run_pure, Result.andThen]
abbrev InU64 (e : Int) : Prop := 0 ≤ e ∧ e ≤ 18446744073709551615
theorem rngU64 {e : Int} (h : InU64 e) : IntKind.u64.wrap e = e := by
  have : IntKind.u64.wrap e = e % 18446744073709551616 := rfl
  rw [this]; unfold InU64 at h; omega
def tooWarm (c : MWater) (limit : Int) : Option Bool :=
some (decide (limit < c.warm.hi))
set_option maxRecDepth 100000 in
set_option maxHeartbeats 4000000 in
theorem tooWarm_ok (c : MWater) (limit : Int) (W : World) (v : Nat → Value) (hL : LBox limit v W) (res : Bool) (h : tooWarm c limit = some res) :
    Calls Go.Proofs.Try.prog 40 #[.agg #[.int .i64 c.flow.lo, .int .i64 c.flow.hi, .int .i64 c.warm.lo, .int .i64 c.warm.hi], v 0] W fun e w' => e = .returned (.bool res) ∧ Below W.heap.size W w' := by
  obtain ⟨b, hv, hB⟩ := hL
  rw [hv]
  refine sym_closure (f := 40) (fn := Go.Proofs.Try.f40) (c := Go.Proofs.Try.f40.body.get rfl) Go.Proofs.Try.func40 rfl [.agg [.v (.int .i64 c.flow.lo), .v (.int .i64 c.flow.hi), .v (.int .i64 c.warm.lo), .v (.int .i64 c.warm.hi)], .own 1000 0] [] [] [⟨1000, b, 3, [.v (.int .i64 limit)]⟩] [(1000, .blk 3 [.v (.int .i64 limit)])] rfl (by kernel_rfl) ⟨hB, trivial⟩ ⟨trivial, trivial⟩ trivial trivial fun E a w S => ?_
  rw [tooWarm] at h
  refine sym_seq lay_ok mixed [(0, { g := 0 })] [1, 2] [1000, 0] (⟨[(1, .own 1000 0), (2, .own 0 0)], ⟨[(1000, .blk 3 [.v (.int .i64 limit)]), (0, .blk 25 [.v (.int .i64 c.flow.lo), .v (.int .i64 c.flow.hi), .v (.int .i64 c.warm.lo), .v (.int .i64 c.warm.hi)])], [], []⟩⟩) [] S (by kernel_rfl) (by kernel_rfl) (by kernel_rfl) trivial ?_
  clear S; intro E a w S
  refine sym_seq lay_ok mixed [] [3] [1000] (⟨[(3, .v (.bool (decide (limit < c.warm.hi))))], ⟨[(1000, .blk 3 [.v (.int .i64 limit)])], [], []⟩⟩) [] S (by kernel_rfl) (by kernel_rfl) (by kernel_rfl) trivial ?_
  clear S; intro E a w S
  refine wp_ret ?_
  have h := Option.some.inj h
  subst h
  exact sym_ret lay_ok [.v (.bool (decide (limit < c.warm.hi)))] (by kernel_rfl) rfl S ⟨rfl, S.below_cb (cbs := [⟨1000, b, 3, [.v (.int .i64 limit)]⟩]) (rds0 := []) rfl rfl rfl ⟨rfl, trivial⟩ rfl ⟨trivial, trivial⟩ (show [1000].Nodup by decide) ⟨hB, trivial⟩ rfl⟩
def indexWarm_k1  (x1 : Unit) : Option Int :=
some (-1)
def indexWarm_l1 (l : List MWater) (limit : Int) : Nat → Int → Option (Lp Unit Int)
  | 0, _ => none
  | n + 1, b1 =>
    (bif decide (b1 < ((l.length : Nat) : Int)) then
    (grd (((0 : Int) ≤ b1 ∧ (b1 : Int) < ((l.length : Nat) : Int))) <|
    (tooWarm (MWater.mk (MSpan.mk (((l.getD (Int.toNat b1) default).flow).lo) (((l.getD (Int.toNat b1) default).flow).hi)) (MSpan.mk (((l.getD (Int.toNat b1) default).warm).lo) (((l.getD (Int.toNat b1) default).warm).hi))) limit).bind fun (r1 : Bool) =>
    (bif r1 then
    (some (Lp.ret b1))
    else
    (grd (InI64 (b1 + 1)) <|
    indexWarm_l1 l limit n (b1 + 1))))
    else
    (some (Lp.done ())))
def indexWarm (fuel : Nat) (l : List MWater) (limit : Int) : Option Int :=
(indexWarm_l1 l limit fuel 0).bind fun lr1 => lr1.go fun x1 => indexWarm_k1 x1
set_option maxRecDepth 100000 in
set_option maxHeartbeats 4000000 in
theorem indexWarm_ok (fuel : Nat) (l : List MWater) (limit : Int) (W : World) (A0 : Option Addr) (c0 : Nat) (h0 : l.length ≤ c0) (s0 : SlAt W A0 l.length 4 fun i => wCells (l.getD i default)) (v : Nat → Value) (hv : ∀ i, (v i).oneCell' = true) (hL : HeldIn allR W (LBox limit v)) (res : Int) (h : indexWarm fuel l limit = some res) :
    Calls Go.Proofs.Try.prog 58 #[.slice A0 l.length c0, .func (.func 40) #[] #[v 0]] W fun e w' => e = .returned (.int .i64 res) ∧ Below W.heap.size W w' := by
  refine sym_call (f := 58) (fn := Go.Proofs.Try.f58) (c := Go.Proofs.Try.f58.body.get rfl) Go.Proofs.Try.func58 rfl [.sl 0, .fn 40 [.ltr 1500 0]] [(0, wQ l)] [(1500, .held (LBox limit))] (envOf [(0, ⟨A0, l.length, c0, 4⟩)] [(1500, v)]) allR (fun _ _ => rfl) (by kernel_rfl) (envOf_one ⟨hv, trivial⟩) ⟨s0.rd h0, trivial⟩ (AllRR.all _ _) ⟨hL, trivial⟩ fun E a w S => ?_
  rw [indexWarm] at h
  refine sym_seq lay_ok mixed [] [0, 1] [1500] (⟨[(0, .sl 0), (1, .fn 40 [.ltr 1500 0])], ⟨[(1500, .held (LBox limit))], [(0, wQ l)], []⟩⟩) [] S (by kernel_rfl) (by kernel_rfl) (by kernel_rfl) trivial ?_
  clear S; intro E a w S
  refine wp_seq ?_
  refine sym_seq lay_ok mixed [] [0, 1, 7, 8] [1500] (⟨[(0, .sl 0), (1, .fn 40 [.ltr 1500 0]), (7, .v (.int .i64 ((l.length : Nat) : Int))), (8, .v (.int .i64 0))], ⟨[(1500, .held (LBox limit))], [(0, wQ l)], []⟩⟩) [] S (by kernel_rfl) (by kernel_rfl) (by kernel_rfl) trivial ?_
  clear S; intro E a w S
  obtain ⟨lr1, e1, hp1⟩ := bind_some h
  clear h
  refine sym_block_last (G := fun a w => ∃ E, ∃ x1 : Unit, indexWarm_k1 x1 = some res ∧ St ⟨W, noC, Go.Proofs.Try.f58.ntmps, [], allR, noρ, (envOf [(0, ⟨A0, l.length, c0, 4⟩)] [(1500, v)]).sl, (envOf [(0, ⟨A0, l.length, c0, 4⟩)] [(1500, v)]).x⟩ (⟨[], ⟨[(1500, .held (LBox limit))], [(0, wQ l)], []⟩⟩) E a w) ?_ ?_
  · refine wp_loop_rounds fuel ?_
    refine sym_rounds (F := fun n b1 => indexWarm_l1 l limit n b1 = some lr1) (H := fun b1 => ⟨[(0, .sl 0), (1, .fn 40 [.ltr 1500 0]), (7, .v (.int .i64 ((l.length : Nat) : Int))), (8, .v (.int .i64 b1))], ⟨[(1500, .held (LBox limit))], [(0, wQ l)], []⟩⟩) 0 (fun b hb => by have hb : none = some lr1 := hb; cases hb) ?_ _ _ _ _ e1 (St.cast (P := Go.Proofs.Try.prog) [] [] [0, 1, 7, 8] [1500] [0] _ [] (by kernel_rfl) trivial S)
    clear e1 S
    intro n b1 E a w h ih S
    rw [indexWarm_l1] at h
    refine sym_seq lay_ok mixed [] [0, 1, 7, 8, 9] [1500] (⟨[(0, .sl 0), (1, .fn 40 [.ltr 1500 0]), (7, .v (.int .i64 ((l.length : Nat) : Int))), (8, .v (.int .i64 b1)), (9, .v (.bool (decide (b1 < ((l.length : Nat) : Int)))))], ⟨[(1500, .held (LBox limit))], [(0, wQ l)], []⟩⟩) [] S (by kernel_rfl) (by kernel_rfl) (by kernel_rfl) trivial ?_
    clear S; intro E a w S
    refine sym_if (b := decide (b1 < ((l.length : Nat) : Int))) S rfl (fun hb1 => ?_) (fun hb1 => ?_)
    · have h := bif_t hb1 h
      refine wp_skip ?_
      refine out_then_normal ?_
      refine wp_seq ?_
      refine wp_block ?_
      refine sym_seq lay_ok mixed [] [0, 1, 7, 8, 5] [1500] (⟨[(0, .sl 0), (1, .fn 40 [.ltr 1500 0]), (7, .v (.int .i64 ((l.length : Nat) : Int))), (8, .v (.int .i64 b1)), (5, .v (.int .i64 b1))], ⟨[(1500, .held (LBox limit))], [(0, wQ l)], []⟩⟩) [] S (by kernel_rfl) (by kernel_rfl) (by kernel_rfl) trivial ?_
      clear S; intro E a w S
      obtain ⟨g1, h⟩ := grd_some h
      obtain ⟨r1, e2, h⟩ := bind_some h
      refine sym_seq lay_ok mixed [(5, { fp := [1500], res := .v (.bool r1) })] [0, 1, 7, 8, 5, 16] [1500] (⟨[(0, .sl 0), (1, .fn 40 [.ltr 1500 0]), (7, .v (.int .i64 ((l.length : Nat) : Int))), (8, .v (.int .i64 b1)), (5, .v (.int .i64 b1)), (16, .v (.bool r1))], ⟨[(1500, .held (LBox limit))], [(0, wQ l)], []⟩⟩) [.idx b1 l.length, .idx b1 l.length, .call ⟨[(1500, .held (LBox limit))], [(0, wQ l)], []⟩ 40 [.agg [.v (.int .i64 (((l.getD (Int.toNat b1) default).flow).lo)), .v (.int .i64 (((l.getD (Int.toNat b1) default).flow).hi)), .v (.int .i64 (((l.getD (Int.toNat b1) default).warm).lo)), .v (.int .i64 (((l.getD (Int.toNat b1) default).warm).hi))], .ltr 1500 0] (.v (.bool r1))] S (by kernel_rfl) (by kernel_rfl) (by kernel_rfl) ⟨g1, g1, ⟨enters_40, fun E W _ hm => tooWarm_ok (MWater.mk (MSpan.mk (((l.getD (Int.toNat b1) default).flow).lo) (((l.getD (Int.toNat b1) default).flow).hi)) (MSpan.mk (((l.getD (Int.toNat b1) default).warm).lo) (((l.getD (Int.toNat b1) default).warm).hi))) limit W _ (hm.held 1500 _ rfl).out r1 e2⟩, trivial⟩ ?_
      clear S; intro E a w S
      refine sym_if_last (b := r1) S rfl (fun hb2 => ?_) (fun hb2 => ?_)
      · have h := bif_t hb2 h
        refine sym_seq lay_ok mixed [] [4] [1500] (⟨[(4, .v (.int .i64 b1))], ⟨[(1500, .held (LBox limit))], [(0, wQ l)], []⟩⟩) [] S (by kernel_rfl) (by kernel_rfl) (by kernel_rfl) trivial ?_
        clear S; intro E a w S
        refine wp_ret ?_
        refine out_block_ret ?_
        refine out_then_ret ?_
        refine out_then_ret ?_
        refine out_block_ret ?_
        refine out_then_ret ?_
        refine out_then_ret ?_
        have hr := Option.some.inj h
        subst hr
        have hr := Option.some.inj hp1
        subst hr
        exact sym_ret lay_ok [.v (.int .i64 b1)] (by kernel_rfl) rfl S ⟨rfl, S.below rfl⟩
      · have h := bif_f hb2 h
        refine wp_skip ?_
        refine out_block_normal ?_
        refine out_then_normal ?_
        obtain ⟨g2, h⟩ := grd_some h
        refine sym_last lay_ok mixed [] [0, 1, 7, 8] [1500] (⟨[(0, .sl 0), (1, .fn 40 [.ltr 1500 0]), (7, .v (.int .i64 ((l.length : Nat) : Int))), (8, .v (.int .i64 (b1 + 1)))], ⟨[(1500, .held (LBox limit))], [(0, wQ l)], []⟩⟩) [.rng .i64 (b1 + 1)] S (by kernel_rfl) (by kernel_rfl) (by kernel_rfl) ⟨rngI64 g2, trivial⟩ ?_
        clear S; intro E a w S
        refine out_then_normal ?_
        exact ih (b1 + 1) _ _ _ h (St.cast (P := Go.Proofs.Try.prog) [] [] [0, 1, 7, 8] [1500] [0] _ [] (by kernel_rfl) trivial S)
    · have h := bif_f hb1 h
      refine wp_exit ?_
      refine out_then_exit ?_
      refine out_then_exit ?_
      refine out_block_here ?_
      refine out_then_normal ?_
      have hr := Option.some.inj h
      subst hr
      exact ⟨_, (), hp1, St.cast (P := Go.Proofs.Try.prog) [] [] [] [1500] [0] _ [] (by kernel_rfl) trivial S⟩
  clear e1 S
  rintro a w ⟨E, x1, h, S⟩
  rw [indexWarm_k1] at h
  refine out_then_normal ?_
  refine sym_seq lay_ok mixed [] [4] [1500] (⟨[(4, .v (.int .i64 (-1)))], ⟨[(1500, .held (LBox limit))], [(0, wQ l)], []⟩⟩) [] S (by kernel_rfl) (by kernel_rfl) (by kernel_rfl) trivial ?_
  clear S; intro E a w S
  refine wp_ret ?_
  have h := Option.some.inj h
  subst h
  exact sym_ret lay_ok [.v (.int .i64 (-1))] (by kernel_rfl) rfl S ⟨rfl, S.below rfl⟩
def anyWarm (fuel : Nat) (l : List MWater) (limit : Int) : Option Bool :=
(indexWarm fuel l limit).bind fun (r1 : Int) =>
some (decide (0 ≤ r1))
set_option maxRecDepth 100000 in
set_option maxHeartbeats 4000000 in
theorem anyWarm_ok (fuel : Nat) (l : List MWater) (limit : Int) (W : World) (A0 : Option Addr) (c0 : Nat) (h0 : l.length ≤ c0) (s0 : SlAt W A0 l.length 4 fun i => wCells (l.getD i default)) (v : Nat → Value) (hv : ∀ i, (v i).oneCell' = true) (hL : HeldIn allR W (LBox limit v)) (res : Bool) (h : anyWarm fuel l limit = some res) :
    Calls Go.Proofs.Try.prog 43 #[.slice A0 l.length c0, .func (.func 40) #[] #[v 0]] W fun e w' => e = .returned (.bool res) ∧ Below W.heap.size W w' := by
  refine sym_call (f := 43) (fn := Go.Proofs.Try.f43) (c := Go.Proofs.Try.f43.body.get rfl) Go.Proofs.Try.func43 rfl [.sl 0, .fn 40 [.ltr 1500 0]] [(0, wQ l)] [(1500, .held (LBox limit))] (envOf [(0, ⟨A0, l.length, c0, 4⟩)] [(1500, v)]) allR (fun _ _ => rfl) (by kernel_rfl) (envOf_one ⟨hv, trivial⟩) ⟨s0.rd h0, trivial⟩ (AllRR.all _ _) ⟨hL, trivial⟩ fun E a w S => ?_
  rw [anyWarm] at h
  refine sym_seq lay_ok mixed [] [0, 1] [1500] (⟨[(0, .sl 0), (1, .fn 40 [.ltr 1500 0])], ⟨[(1500, .held (LBox limit))], [(0, wQ l)], []⟩⟩) [] S (by kernel_rfl) (by kernel_rfl) (by kernel_rfl) trivial ?_
  clear S; intro E a w S
  obtain ⟨r1, e1, h⟩ := bind_some h
  refine sym_seq lay_ok mixed [(2, { fp := [1500], res := .v (.int .i64 r1) })] [4] [1500] (⟨[(4, .v (.bool (decide (0 ≤ r1))))], ⟨[(1500, .held (LBox limit))], [(0, wQ l)], []⟩⟩) [.call ⟨[(1500, .held (LBox limit))], [(0, wQ l)], []⟩ 58 [.sl 0, .fn 40 [.ltr 1500 0]] (.v (.int .i64 r1))] S (by kernel_rfl) (by kernel_rfl) (by kernel_rfl) ⟨⟨enters_58, fun E W _ hm => by obtain ⟨A0, c0, q0, l0, s0, _⟩ := Mem.sl hm (s := 0) rfl; simp only [SV.vals, SV.val, q0]; exact indexWarm_ok fuel l limit W A0 c0 l0 s0 (fun i => E.x 1500 i) (fun i => hm.one 1500 i) ((hm.held 1500 _ rfl).mono fun _ _ _ => trivial) r1 e1⟩, trivial⟩ ?_
  clear S; intro E a w S
  refine wp_ret ?_
  have h := Option.some.inj h
  subst h
  exact sym_ret lay_ok [.v (.bool (decide (0 ≤ r1)))] (by kernel_rfl) rfl S ⟨rfl, S.below rfl⟩
def tooMuch (fuel : Nat) (c : MWater) (l : List MPoint) (at' limit heat : Int) : Option Bool :=
grd (((0 : Int) ≤ at' ∧ at' ≤ ((l.length : Nat) : Int) ∧ l.length ≤ 1000000)) <|
(followM (MWater.mk (MSpan.mk c.flow.lo c.flow.hi) (MSpan.mk c.warm.lo c.warm.hi)) [] (insertP l at' heat)).bind fun (r1 : List MWater × Int) =>
grd (((!(r1.2 != 0)) = true → ((0 : Int) ≤ at' ∧ at' ≤ ((r1.1.length : Nat) : Int) ∧ ((r1.1.length : Nat) : Int) ≤ ((r1.1.length : Nat) : Int)))) <|
((bif (!(r1.2 != 0)) then anyWarm fuel ((r1.1.drop (Int.toNat at')).take (r1.1.length - (Int.toNat at'))) limit else some default)).bind fun (r2 : Bool) =>
some ((r1.2 != 0) || r2)
/-- five blocks that hold what tooMuch has caught -/
def RBox (c : MWater) (l : List MPoint) (at' limit : Int) (v : Nat → Value) (w : World) : Prop := ∃ b0 b1 b2 b3 b4 r, v 0 = .pointer (some ⟨b0, 0, none⟩) ∧ v 1 = .pointer (some ⟨b1, 0, none⟩) ∧ v 2 = .pointer (some ⟨b2, 0, none⟩) ∧ v 3 = .pointer (some ⟨b3, 0, none⟩) ∧ b2 ≠ b4 ∧ InR (fun k => k ≠ b0 ∧ k ≠ b1 ∧ k ≠ b2 ∧ k ≠ b3 ∧ k ≠ b4 ∧ True) r.A l.length ∧
  Blk w b0 25 (wCells c).toArray ∧ Blk w b1 26 #[.slice r.A l.length r.cap] ∧ Blk w b2 3 #[.int .i64 at'] ∧ Blk w b3 50 #[.func (.func 40) #[] #[.pointer (some ⟨b4, 0, none⟩)]] ∧ Blk w b4 3 #[.int .i64 limit] ∧ RdAt w (pQ l) r
set_option maxRecDepth 100000 in
set_option maxHeartbeats 4000000 in
theorem tooMuch_ok (fuel : Nat) (c : MWater) (l : List MPoint) (at' limit heat : Int) (W : World) (v : Nat → Value) (hL : RBox c l at' limit v W) (res : Bool) (h : tooMuch fuel c l at' limit heat = some res) :
    Calls Go.Proofs.Try.prog 41 #[.int .i64 heat, v 0, v 1, v 2, v 3] W fun e w' => e = .returned (.bool res) ∧ Below W.heap.size W w' := by
  obtain ⟨b0, b1, b2, b3, b4, r, v0, v1, v2, v3, n24, r0, B0, B1, B2, B3, B4, hr⟩ := hL
  obtain ⟨_, h0, s0⟩ := hr.sl
  rw [v0, v1, v2, v3]
  have hA : ApartCB [⟨1000, b0, 25, [.v (.int .i64 c.flow.lo), .v (.int .i64 c.flow.hi), .v (.int .i64 c.warm.lo), .v (.int .i64 c.warm.hi)]⟩, ⟨1001, b1, 26, [.sl 0]⟩, ⟨1002, b2, 3, [.v (.int .i64 at')]⟩, ⟨1003, b3, 50, [.fn 40 [.own 1004 0]]⟩, ⟨1004, b4, 3, [.v (.int .i64 limit)]⟩] := ⟨⟨blk_ne B0 B1 (by decide), blk_ne B0 B2 (by decide), blk_ne B0 B3 (by decide), blk_ne B0 B4 (by decide), trivial⟩, ⟨blk_ne B1 B2 (by decide), blk_ne B1 B3 (by decide), blk_ne B1 B4 (by decide), trivial⟩, ⟨blk_ne B2 B3 (by decide), n24, trivial⟩, ⟨blk_ne B3 B4 (by decide), trivial⟩, trivial, trivial⟩
  have hB : AllCB W (envC [(0, ⟨r.A, l.length, r.cap, 9⟩)] [] [⟨1000, b0, 25, [.v (.int .i64 c.flow.lo), .v (.int .i64 c.flow.hi), .v (.int .i64 c.warm.lo), .v (.int .i64 c.warm.hi)]⟩, ⟨1001, b1, 26, [.sl 0]⟩, ⟨1002, b2, 3, [.v (.int .i64 at')]⟩, ⟨1003, b3, 50, [.fn 40 [.own 1004 0]]⟩, ⟨1004, b4, 3, [.v (.int .i64 limit)]⟩]) [⟨1000, b0, 25, [.v (.int .i64 c.flow.lo), .v (.int .i64 c.flow.hi), .v (.int .i64 c.warm.lo), .v (.int .i64 c.warm.hi)]⟩, ⟨1001, b1, 26, [.sl 0]⟩, ⟨1002, b2, 3, [.v (.int .i64 at')]⟩, ⟨1003, b3, 50, [.fn 40 [.own 1004 0]]⟩, ⟨1004, b4, 3, [.v (.int .i64 limit)]⟩] := ⟨B0, B1, B2, B3, B4, trivial⟩
  refine sym_closure (f := 41) (fn := Go.Proofs.Try.f41) (c := Go.Proofs.Try.f41.body.get rfl) Go.Proofs.Try.func41 rfl [.v (.int .i64 heat), .own 1000 0, .own 1001 0, .own 1002 0, .own 1003 0] [(0, pQ l)] [(0, ⟨r.A, l.length, r.cap, 9⟩)] [⟨1000, b0, 25, [.v (.int .i64 c.flow.lo), .v (.int .i64 c.flow.hi), .v (.int .i64 c.warm.lo), .v (.int .i64 c.warm.hi)]⟩, ⟨1001, b1, 26, [.sl 0]⟩, ⟨1002, b2, 3, [.v (.int .i64 at')]⟩, ⟨1003, b3, 50, [.fn 40 [.own 1004 0]]⟩, ⟨1004, b4, 3, [.v (.int .i64 limit)]⟩] [(1000, .blk 25 [.v (.int .i64 c.flow.lo), .v (.int .i64 c.flow.hi), .v (.int .i64 c.warm.lo), .v (.int .i64 c.warm.hi)]), (1001, .blk 26 [.sl 0]), (1002, .blk 3 [.v (.int .i64 at')]), (1003, .blk 50 [.fn 40 [.own 1004 0]]), (1004, .blk 3 [.v (.int .i64 limit)])] rfl (by kernel_rfl) hB hA ⟨s0.rd h0, trivial⟩ ⟨r0, trivial⟩ fun E a w S => ?_
  rw [tooMuch] at h
  refine sym_seq lay_ok mixed [] [0, 1, 2, 3, 4] [1000, 1001, 1002, 1003, 1004] (⟨[(0, .v (.int .i64 heat)), (1, .own 1000 0), (2, .own 1001 0), (3, .own 1002 0), (4, .own 1003 0)], ⟨[(1000, .blk 25 [.v (.int .i64 c.flow.lo), .v (.int .i64 c.flow.hi), .v (.int .i64 c.warm.lo), .v (.int .i64 c.warm.hi)]), (1001, .blk 26 [.sl 0]), (1002, .blk 3 [.v (.int .i64 at')]), (1003, .blk 50 [.fn 40 [.own 1004 0]]), (1004, .blk 3 [.v (.int .i64 limit)])], [(0, pQ l)], []⟩⟩) [] S (by kernel_rfl) (by kernel_rfl) (by kernel_rfl) trivial ?_
  clear S; intro E a w S
  obtain ⟨g1, h⟩ := grd_some h
  obtain ⟨r1, e1, h⟩ := bind_some h
  refine sym_seq lay_ok mixed [(4, { g := 0, res := .fn 57 [.ltr 0 0, .ltr 0 1, .ltr 0 2], hx := some (HBox l at' heat) }), (5, { g := 1, fp := [0], res := .tup [.ltr 1 0, .v (.int .i64 r1.2)], hx := some (SlicesAre 0 [⟨r1.1.length, 4, fun i => [.int .i64 (((r1.1.getD i default).flow).lo), .int .i64 (((r1.1.getD i default).flow).hi), .int .i64 (((r1.1.getD i default).warm).lo), .int .i64 (((r1.1.getD i default).warm).hi)]⟩]) })] [3, 4, 7, 8] [1000, 1001, 1002, 1003, 1004, 1] (⟨[(3, .own 1002 0), (4, .own 1003 0), (7, .ltr 1 0), (8, .v (.int .i64 r1.2))], ⟨[(1000, .blk 25 [.v (.int .i64 c.flow.lo), .v (.int .i64 c.flow.hi), .v (.int .i64 c.warm.lo), .v (.int .i64 c.warm.hi)]), (1001, .blk 26 [.sl 0]), (1002, .blk 3 [.v (.int .i64 at')]), (1003, .blk 50 [.fn 40 [.own 1004 0]]), (1004, .blk 3 [.v (.int .i64 limit)]), (1, .held (SlicesAre 0 [⟨r1.1.length, 4, fun i => [.int .i64 (((r1.1.getD i default).flow).lo), .int .i64 (((r1.1.getD i default).flow).hi), .int .i64 (((r1.1.getD i default).warm).lo), .int .i64 (((r1.1.getD i default).warm).hi)]⟩]))], [(0, pQ l)], []⟩⟩) [.callx ⟨[], [(0, pQ l)], []⟩ 0 42 [.sl 0, .v (.int .i64 at'), .v (.int .i64 heat)] (.fn 57 [.ltr 0 0, .ltr 0 1, .ltr 0 2]) (HBox l at' heat), .callx ⟨[(0, .held (HBox l at' heat))], [(0, pQ l)], []⟩ 1 35 [.agg [.v (.int .i64 c.flow.lo), .v (.int .i64 c.flow.hi), .v (.int .i64 c.warm.lo), .v (.int .i64 c.warm.hi)], .fn 57 [.ltr 0 0, .ltr 0 1, .ltr 0 2]] (.tup [.ltr 1 0, .v (.int .i64 r1.2)]) (SlicesAre 0 [⟨r1.1.length, 4, fun i => [.int .i64 (((r1.1.getD i default).flow).lo), .int .i64 (((r1.1.getD i default).flow).hi), .int .i64 (((r1.1.getD i default).warm).lo), .int .i64 (((r1.1.getD i default).warm).hi)]⟩])] S (by kernel_rfl) (by kernel_rfl) (by kernel_rfl) ⟨⟨enters_42, fun E W R hm => by obtain ⟨A0, c0, q0, l0, s0, r0⟩ := Mem.sl hm (s := 0) rfl; simp only [SV.vals, SV.val, q0, Env.updX_same]; exact heatedOf_ok l at' heat W R A0 c0 l0 s0 r0⟩, ⟨enters_35, fun E W R hm => by have hx := follow_heated (MWater.mk (MSpan.mk c.flow.lo c.flow.hi) (MSpan.mk c.warm.lo c.warm.hi)) l at' heat W (E.x 0) (hm.held 0 _ rfl).out g1 r1 e1; simp only [SV.vals, SV.val, Env.updX_same]; exact hx.mono fun e w' hx => by obtain ⟨v, h1, h2, h3, h4⟩ := hx; exact ⟨v, h1, h2, h3, h4.mono fun _ _ h => .inl h⟩⟩, trivial⟩ ?_
  clear S; intro E a w S
  obtain ⟨E, S⟩ := St.read 1 0 1001 ⟨r1.1.length, 4, fun i => [.int .i64 (((r1.1.getD i default).flow).lo), .int .i64 (((r1.1.getD i default).flow).hi), .int .i64 (((r1.1.getD i default).warm).lo), .int .i64 (((r1.1.getD i default).warm).hi)]⟩ (⟨[(3, .own 1002 0), (4, .own 1003 0), (7, .sl 1001), (8, .v (.int .i64 r1.2))], ⟨[(1000, .blk 25 [.v (.int .i64 c.flow.lo), .v (.int .i64 c.flow.hi), .v (.int .i64 c.warm.lo), .v (.int .i64 c.warm.hi)]), (1001, .blk 26 [.sl 0]), (1002, .blk 3 [.v (.int .i64 at')]), (1003, .blk 50 [.fn 40 [.own 1004 0]]), (1004, .blk 3 [.v (.int .i64 limit)]), (1, .held (SlicesAre 0 [⟨r1.1.length, 4, fun i => [.int .i64 (((r1.1.getD i default).flow).lo), .int .i64 (((r1.1.getD i default).flow).hi), .int .i64 (((r1.1.getD i default).warm).lo), .int .i64 (((r1.1.getD i default).warm).hi)]⟩]))], ((1001, ⟨r1.1.length, 4, fun i => [.int .i64 (((r1.1.getD i default).flow).lo), .int .i64 (((r1.1.getD i default).flow).hi), .int .i64 (((r1.1.getD i default).warm).lo), .int .i64 (((r1.1.getD i default).warm).hi)]⟩) :: [(0, pQ l)]), []⟩⟩) rfl (fun v w h => h.1) (by intro _ h; cases h) (by kernel_rfl) (by kernel_rfl) S
  obtain ⟨g2, h⟩ := grd_some h
  obtain ⟨r2, e2, h⟩ := bind_some h
  refine sym_seq lay_ok mixed [(3, { og := true }), (4, { og := true }), (5, { og := true }), (6, { og := true }), (7, { og := true, fp := [1004], res := .v (.bool r2) }), (8, { pk := true })] [6] [1000, 1001, 1002, 1003, 1004] (⟨[(6, .v (.bool ((r1.2 != 0) || r2)))], ⟨[(1000, .blk 25 [.v (.int .i64 c.flow.lo), .v (.int .i64 c.flow.hi), .v (.int .i64 c.warm.lo), .v (.int .i64 c.warm.hi)]), (1001, .blk 26 [.sl 0]), (1002, .blk 3 [.v (.int .i64 at')]), (1003, .blk 50 [.fn 40 [.own 1004 0]]), (1004, .blk 3 [.v (.int .i64 limit)])], ((1001, ⟨r1.1.length, 4, fun i => [.int .i64 (((r1.1.getD i default).flow).lo), .int .i64 (((r1.1.getD i default).flow).hi), .int .i64 (((r1.1.getD i default).warm).lo), .int .i64 (((r1.1.getD i default).warm).hi)]⟩) :: [(0, pQ l)]), []⟩⟩) [.imp (!(r1.2 != 0)) (!(r1.2 != 0)), .imp (!(r1.2 != 0)) (!(r1.2 != 0)), .when (!(r1.2 != 0)) (.sub at' ((r1.1.length : Nat) : Int) r1.1.length), .imp (!(r1.2 != 0)) (!(r1.2 != 0)), .imp (!(r1.2 != 0)) (!(r1.2 != 0)), .when (!(r1.2 != 0)) (.call ⟨[(1004, .blk 3 [.v (.int .i64 limit)])], ((1001, ⟨r1.1.length, 4, fun i => [.int .i64 (((r1.1.getD i default).flow).lo), .int .i64 (((r1.1.getD i default).flow).hi), .int .i64 (((r1.1.getD i default).warm).lo), .int .i64 (((r1.1.getD i default).warm).hi)]⟩) :: [(0, pQ l)]), []⟩ 43 [.sub 1001 (Int.toNat at') r1.1.length, .fn 40 [.own 1004 0]] (.v (.bool r2))), .imp (!(r1.2 != 0)) (!(r1.2 != 0))] S (by kernel_rfl) (by kernel_rfl) (by kernel_rfl) ⟨fun h => h, fun h => h, fun hW => (g2 hW), fun h => h, fun h => h, fun hW => ⟨enters_43, fun E W _ hm => by obtain ⟨A0, c0, q0, l0, s0, _⟩ := Mem.subM hm (s := 1001) rfl (Int.toNat at') r1.1.length ((r1.1.drop (Int.toNat at')).take (r1.1.length - (Int.toNat at'))).length (fun i => [.int .i64 (((((r1.1.drop (Int.toNat at')).take (r1.1.length - (Int.toNat at'))).getD i default).flow).lo), .int .i64 (((((r1.1.drop (Int.toNat at')).take (r1.1.length - (Int.toNat at'))).getD i default).flow).hi), .int .i64 (((((r1.1.drop (Int.toNat at')).take (r1.1.length - (Int.toNat at'))).getD i default).warm).lo), .int .i64 (((((r1.1.drop (Int.toNat at')).take (r1.1.length - (Int.toNat at'))).getD i default).warm).hi)]) (show (Int.toNat at') ≤ r1.1.length by have := (g2 hW); omega) (show r1.1.length ≤ r1.1.length by have := (g2 hW); omega) (sub_len _ _ _ (by have := (g2 hW); omega)) (fun i hi => by simp only [sub_getD _ _ _ _ hi]); simp only [SV.vals, SV.val, q0]; exact anyWarm_ok fuel ((r1.1.drop (Int.toNat at')).take (r1.1.length - (Int.toNat at'))) limit W A0 c0 l0 s0 (fun _ => .pointer (some ⟨E.ρ 1004, 0, none⟩)) (fun _ => rfl) (LBox.of (hm.blk 1004 _ _ rfl)) r2 (bif_t hW e2)⟩, fun h => h, trivial⟩ ?_
  clear S; intro E a w S
  refine wp_ret ?_
  have h := Option.some.inj h
  subst h
  exact sym_ret lay_ok [.v (.bool ((r1.2 != 0) || r2))] (by kernel_rfl) rfl S ⟨rfl, S.below_cb (cbs := [⟨1000, b0, 25, [.v (.int .i64 c.flow.lo), .v (.int .i64 c.flow.hi), .v (.int .i64 c.warm.lo), .v (.int .i64 c.warm.hi)]⟩, ⟨1001, b1, 26, [.sl 0]⟩, ⟨1002, b2, 3, [.v (.int .i64 at')]⟩, ⟨1003, b3, 50, [.fn 40 [.own 1004 0]]⟩, ⟨1004, b4, 3, [.v (.int .i64 limit)]⟩]) (rds0 := [(0, ⟨r.A, l.length, r.cap, 9⟩)]) rfl rfl rfl ⟨rfl, rfl, rfl, rfl, rfl, trivial⟩ rfl hA (show [1000, 1001, 1002, 1003, 1004].Nodup by decide) hB rfl⟩
def searchRoom_k1  (x1 : Int) : Option Int :=
some x1
def searchRoom_l1 (fuel : Nat) (c : MWater) (l : List MPoint) (at' : Int) (limit : Int) : Nat → (Int × Int) → Option (Lp Int Int)
  | 0, _ => none
  | n + 1, b1 =>
    (bif decide (b1.1 < b1.2) then
    (grd (InI64 (b1.1 + b1.2) ∧ InU64 (b1.1 + b1.2) ∧ ((0 : Int) ≤ (b1.1 + b1.2)) ∧ InI64 ((b1.1 + b1.2) / 2)) <|
    (tooMuch fuel c l at' limit ((b1.1 + b1.2) / 2)).bind fun (r1 : Bool) =>
    (bif (!r1) then
    (grd (InI64 (((b1.1 + b1.2) / 2) + 1)) <|
    searchRoom_l1 fuel c l at' limit n ((((b1.1 + b1.2) / 2) + 1), b1.2))
    else
    (searchRoom_l1 fuel c l at' limit n (b1.1, ((b1.1 + b1.2) / 2)))))
    else
    (some (Lp.done b1.1)))
def searchRoom (fuel : Nat) (c : MWater) (l : List MPoint) (at' limit : Int) (n0 : Int) : Option Int :=
(searchRoom_l1 fuel c l at' limit fuel (0, n0)).bind fun lr1 => lr1.go fun x1 => searchRoom_k1 x1
set_option maxRecDepth 100000 in
set_option maxHeartbeats 4000000 in
theorem searchRoom_ok (fuel : Nat) (c : MWater) (l : List MPoint) (at' limit : Int) (n0 : Int) (W : World) (v : Nat → Value) (hv : ∀ i, (v i).oneCell' = true) (hL : HeldIn allR W (RBox c l at' limit v)) (res : Int) (h : searchRoom fuel c l at' limit n0 = some res) :
    Calls Go.Proofs.Try.prog 44 #[.int .i64 n0, .func (.func 41) #[] #[v 0, v 1, v 2, v 3]] W fun e w' => e = .returned (.int .i64 res) ∧ Below W.heap.size W w' := by
  refine sym_call (f := 44) (fn := Go.Proofs.Try.f44) (c := Go.Proofs.Try.f44.body.get rfl) Go.Proofs.Try.func44 rfl [.v (.int .i64 n0), .fn 41 [.ltr 1500 0, .ltr 1500 1, .ltr 1500 2, .ltr 1500 3]] [] [(1500, .held (RBox c l at' limit))] (envOf [] [(1500, v)]) allR (fun _ _ => rfl) (by kernel_rfl) (envOf_one ⟨hv, trivial⟩) trivial trivial ⟨hL, trivial⟩ fun E a w S => ?_
  rw [searchRoom] at h
  refine sym_seq lay_ok mixed [] [0, 1] [1500] (⟨[(0, .v (.int .i64 n0)), (1, .fn 41 [.ltr 1500 0, .ltr 1500 1, .ltr 1500 2, .ltr 1500 3])], ⟨[(1500, .held (RBox c l at' limit))], [], []⟩⟩) [] S (by kernel_rfl) (by kernel_rfl) (by kernel_rfl) trivial ?_
  clear S; intro E a w S
  refine sym_seq lay_ok mixed [] [1, 5, 6] [1500] (⟨[(1, .fn 41 [.ltr 1500 0, .ltr 1500 1, .ltr 1500 2, .ltr 1500 3]), (5, .v (.int .i64 0)), (6, .v (.int .i64 n0))], ⟨[(1500, .held (RBox c l at' limit))], [], []⟩⟩) [] S (by kernel_rfl) (by kernel_rfl) (by kernel_rfl) trivial ?_
  clear S; intro E a w S
  obtain ⟨lr1, e1, hp1⟩ := bind_some h
  clear h
  refine sym_block_meet (G := fun a w => ∃ E, ∃ x1 : Int, searchRoom_k1 x1 = some res ∧ St ⟨W, noC, Go.Proofs.Try.f44.ntmps, [], allR, noρ, (envOf []).sl, (envOf [] [(1500, v)]).x⟩ (⟨[(5, .v (.int .i64 x1))], ⟨[(1500, .held (RBox c l at' limit))], [], []⟩⟩) E a w) ?_ ?_
  · refine wp_loop_rounds fuel ?_
    refine sym_rounds (F := fun n b1 => searchRoom_l1 fuel c l at' limit n b1 = some lr1) (H := fun b1 => ⟨[(1, .fn 41 [.ltr 1500 0, .ltr 1500 1, .ltr 1500 2, .ltr 1500 3]), (5, .v (.int .i64 b1.1)), (6, .v (.int .i64 b1.2))], ⟨[(1500, .held (RBox c l at' limit))], [], []⟩⟩) (0, n0) (fun b hb => by have hb : none = some lr1 := hb; cases hb) ?_ _ _ _ _ e1 (St.cast (P := Go.Proofs.Try.prog) [] [] [1, 5, 6] [1500] [] _ [] (by kernel_rfl) trivial S)
    clear e1 S
    intro n b1 E a w h ih S
    rw [searchRoom_l1] at h
    refine wp_seq ?_
    refine sym_seq lay_ok mixed [] [1, 5, 6, 11] [1500] (⟨[(1, .fn 41 [.ltr 1500 0, .ltr 1500 1, .ltr 1500 2, .ltr 1500 3]), (5, .v (.int .i64 b1.1)), (6, .v (.int .i64 b1.2)), (11, .v (.bool (decide (b1.1 < b1.2))))], ⟨[(1500, .held (RBox c l at' limit))], [], []⟩⟩) [] S (by kernel_rfl) (by kernel_rfl) (by kernel_rfl) trivial ?_
    clear S; intro E a w S
    refine sym_if_last (b := decide (b1.1 < b1.2)) S rfl (fun hb1 => ?_) (fun hb1 => ?_)
    · have h := bif_t hb1 h
      refine wp_skip ?_
      refine out_then_normal ?_
      refine wp_block ?_
      obtain ⟨⟨g1, g2, g3, g4⟩, h⟩ := grd_some h
      refine sym_seq lay_ok mixed [(4, { px := some (.v (.int .u64 ((b1.1 + b1.2) / 2))) })] [1, 5, 6, 7] [1500] (⟨[(1, .fn 41 [.ltr 1500 0, .ltr 1500 1, .ltr 1500 2, .ltr 1500 3]), (5, .v (.int .i64 b1.1)), (6, .v (.int .i64 b1.2)), (7, .v (.int .i64 ((b1.1 + b1.2) / 2)))], ⟨[(1500, .held (RBox c l at' limit))], [], []⟩⟩) [.rng .i64 (b1.1 + b1.2), .rng .u64 (b1.1 + b1.2), .pure ⟨[], [], []⟩ (.binOp .shr 95 (.tmp 15) (.const (.int .u64 1)) 95) [.v (.int .u64 (b1.1 + b1.2)), .v (.int .u64 1)] (.v (.int .u64 ((b1.1 + b1.2) / 2))), .rng .i64 ((b1.1 + b1.2) / 2)] S (by kernel_rfl) (by kernel_rfl) (by kernel_rfl) ⟨rngI64 g1, rngU64 g2, pure_shr1 g3, rngI64 g4, trivial⟩ ?_
      clear S; intro E a w S
      obtain ⟨r1, e2, h⟩ := bind_some h
      refine sym_seq lay_ok mixed [(2, { fp := [1500], res := .v (.bool r1) })] [1, 5, 6, 7, 21] [1500] (⟨[(1, .fn 41 [.ltr 1500 0, .ltr 1500 1, .ltr 1500 2, .ltr 1500 3]), (5, .v (.int .i64 b1.1)), (6, .v (.int .i64 b1.2)), (7, .v (.int .i64 ((b1.1 + b1.2) / 2))), (21, .v (.bool (!r1)))], ⟨[(1500, .held (RBox c l at' limit))], [], []⟩⟩) [.call ⟨[(1500, .held (RBox c l at' limit))], [], []⟩ 41 [.v (.int .i64 ((b1.1 + b1.2) / 2)), .ltr 1500 0, .ltr 1500 1, .ltr 1500 2, .ltr 1500 3] (.v (.bool r1))] S (by kernel_rfl) (by kernel_rfl) (by kernel_rfl) ⟨⟨enters_41, fun E W _ hm => tooMuch_ok fuel c l at' limit ((b1.1 + b1.2) / 2) W _ (hm.held 1500 _ rfl).out r1 e2⟩, trivial⟩ ?_
      clear S; intro E a w S
      refine sym_if_last (b := (!r1)) S rfl (fun hb2 => ?_) (fun hb2 => ?_)
      · have h := bif_t hb2 h
        obtain ⟨g5, h⟩ := grd_some h
        refine sym_last lay_ok mixed [] [1, 5, 6] [1500] (⟨[(1, .fn 41 [.ltr 1500 0, .ltr 1500 1, .ltr 1500 2, .ltr 1500 3]), (5, .v (.int .i64 (((b1.1 + b1.2) / 2) + 1))), (6, .v (.int .i64 b1.2))], ⟨[(1500, .held (RBox c l at' limit))], [], []⟩⟩) [.rng .i64 (((b1.1 + b1.2) / 2) + 1)] S (by kernel_rfl) (by kernel_rfl) (by kernel_rfl) ⟨rngI64 g5, trivial⟩ ?_
        clear S; intro E a w S
        refine out_block_normal ?_
        refine out_then_normal ?_
        exact ih ((((b1.1 + b1.2) / 2) + 1), b1.2) _ _ _ h (St.cast (P := Go.Proofs.Try.prog) [] [] [1, 5, 6] [1500] [] _ [] (by kernel_rfl) trivial S)
      · have h := bif_f hb2 h
        refine sym_last lay_ok mixed [] [1, 5, 6] [1500] (⟨[(1, .fn 41 [.ltr 1500 0, .ltr 1500 1, .ltr 1500 2, .ltr 1500 3]), (5, .v (.int .i64 b1.1)), (6, .v (.int .i64 ((b1.1 + b1.2) / 2)))], ⟨[(1500, .held (RBox c l at' limit))], [], []⟩⟩) [] S (by kernel_rfl) (by kernel_rfl) (by kernel_rfl) trivial ?_
        clear S; intro E a w S
        refine out_block_normal ?_
        refine out_then_normal ?_
        exact ih (b1.1, ((b1.1 + b1.2) / 2)) _ _ _ h (St.cast (P := Go.Proofs.Try.prog) [] [] [1, 5, 6] [1500] [] _ [] (by kernel_rfl) trivial S)
    · have h := bif_f hb1 h
      refine wp_exit ?_
      refine out_then_exit ?_
      refine out_then_exit ?_
      refine out_block_here ?_
      refine out_then_normal ?_
      have hr := Option.some.inj h
      subst hr
      exact ⟨_, b1.1, hp1, St.cast (P := Go.Proofs.Try.prog) [] [] [5] [1500] [] _ [] (by kernel_rfl) trivial S⟩
  clear e1 S
  rintro a w ⟨E, x1, h, S⟩
  rw [searchRoom_k1] at h
  refine sym_seq lay_ok mixed [] [4] [1500] (⟨[(4, .v (.int .i64 x1))], ⟨[(1500, .held (RBox c l at' limit))], [], []⟩⟩) [] S (by kernel_rfl) (by kernel_rfl) (by kernel_rfl) trivial ?_
  clear S; intro E a w S
  refine wp_ret ?_
  have h := Option.some.inj h
  subst h
  exact sym_ret lay_ok [.v (.int .i64 x1)] (by kernel_rfl) rfl S ⟨rfl, S.below rfl⟩
end Go.Proofs.Ytlcccomdijdkaaa
