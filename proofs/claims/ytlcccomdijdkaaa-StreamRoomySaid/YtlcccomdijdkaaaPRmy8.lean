import Derived.Test.YtlcccomdijdkaaaPRmy7
namespace Go.Proofs.Ytlcccomdijdkaaa
open Go.RowKit Go.Proofs.Try

def Wle (w w' : MWater) : Prop := w.flow = w'.flow ∧ w.warm.lo ≤ w'.warm.lo ∧ w.warm.hi ≤ w'.warm.hi
theorem cl_mono {x y D : Int} (h : 0 < D) (hxy : x ≤ y) : cl x D ≤ cl y D := Int.ediv_le_ediv h (by omega)
theorem mixLo_mono {a b c d t t' u : Int} (h : Wts a b c d) (ht : t ≤ t') : mixLo t a b u c d ≤ mixLo t' a b u c d := by
  rw [← min_mix h, ← min_mix h]
  have m1 := Int.mul_le_mul_of_nonneg_right ht (show 0 ≤ b by have := h.a0; have := h.ab; omega)
  have m2 := Int.mul_le_mul_of_nonneg_right ht h.a0
  have e1 : (t * b + u * c) / (b + c) ≤ (t' * b + u * c) / (b + c) := Int.ediv_le_ediv h.bc (by omega)
  have e2 : (t * a + u * d) / (a + d) ≤ (t' * a + u * d) / (a + d) := Int.ediv_le_ediv h.ad (by omega)
  omega
theorem mixHi_mono {a b c d t t' u : Int} (h : Wts a b c d) (ht : t ≤ t') : mixHi t a b u c d ≤ mixHi t' a b u c d := by
  rw [← max_mix h, ← max_mix h]
  have m1 := Int.mul_le_mul_of_nonneg_right ht (show 0 ≤ b by have := h.a0; have := h.ab; omega)
  have m2 := Int.mul_le_mul_of_nonneg_right ht h.a0
  have e1 : cl (t * b + u * c) (b + c) ≤ cl (t' * b + u * c) (b + c) := cl_mono h.bc (by omega)
  have e2 : cl (t * a + u * d) (a + d) ≤ cl (t' * a + u * d) (a + d) := cl_mono h.ad (by omega)
  omega
theorem bh_mono {w w' : MWater} {p : MPoint} (hw : okW w) (hp : okP p) (h : Wle w w') : Wle (bh w p) (bh w' p) := by
  obtain ⟨e, h1, h2⟩ := h
  unfold okP at hp
  unfold bh Wle
  rw [← e]
  split at hp <;> rename_i k0
  · simp only [if_pos k0]
    exact ⟨trivial, mixLo_mono (joinWts hw hp.1) h1, mixHi_mono (joinWts hw hp.1) h2⟩
  simp only [if_neg k0]
  split at hp <;> rename_i k1
  · simp only [if_pos k1]
    exact ⟨trivial, h1, h2⟩
  simp only [if_neg k1]
  split at hp <;> rename_i k2
  · simp only [if_pos k2]
    exact ⟨trivial, by omega, by omega⟩
  simp only [if_neg k2]
  split at hp <;> rename_i k3
  · exact ⟨trivial, mixLo_mono (airWts hp.2) h1, mixHi_mono (airWts hp.2) h2⟩
  · exact hp.elim
theorem step_mono {w w' : MWater} {p : MPoint} (hw : okW w) (hw' : okW w') (h : Wle w w') (hs : stepS w' p = 0) : stepS w p = 0 := by
  obtain ⟨hp, ⟨b1, b2, b3⟩, ⟨b4, b5, b6⟩⟩ := stepS_ok hw' hs
  obtain ⟨m1, m2, m3⟩ := bh_mono hw hp h
  rw [← m1] at b1 b2 b3
  unfold stepS
  rw [if_neg (by simpa using hp), if_neg (by omega), if_neg (by omega)]
/-- from the k-th water on nothing is warmer than the limit, and nothing stops the walk -/
def good (limit : Int) : Nat → MWater → List MPoint → Prop
  | _, _, [] => True
  | k, c, p :: r => stepS c p = 0 ∧ (k = 0 → (bh c p).warm.hi ≤ limit) ∧ good limit (k - 1) (bh c p) r
def goodB (limit : Int) (k : Nat) (c : MWater) (l : List MPoint) : Bool := decide ((flowS c l).2 = 0 ∧ ∀ w ∈ (flowS c l).1.drop k, w.warm.hi ≤ limit)
theorem good_iff (limit : Int) : ∀ (l : List MPoint) (k : Nat) (c : MWater), goodB limit k c l = true ↔ good limit k c l
  | [], k, c => by simp [good, goodB, flowS]
  | p :: r, k, c => by
    rw [good, ← good_iff limit r (k - 1) (bh c p)]
    unfold goodB
    by_cases hs : stepS c p = 0
    · rw [flowS_cons_ok hs]
      cases k with
      | zero => simp [hs]; grind
      | succ k => simp [hs]
    · rw [flowS_cons_no hs]
      simp [hs]
theorem good_mono (limit : Int) : ∀ (l : List MPoint) (k : Nat) (w w' : MWater), okW w → okW w' → Wle w w' → good limit k w' l → good limit k w l
  | [], _, _, _, _, _, _, _ => trivial
  | p :: r, k, w, w', hw, hw', h, hg => by
    obtain ⟨g1, g2, g3⟩ := hg
    have s := step_mono hw hw' h g1
    obtain ⟨hp, hb'⟩ := stepS_ok hw' g1
    have m := bh_mono hw hp h
    exact ⟨s, fun hk => Int.le_trans m.2.2 (g2 hk), good_mono limit r (k - 1) _ _ (stepS_ok hw s).2 hb' m g3⟩
theorem okP_add {y : Int} : okP (addP y) ↔ 0 ≤ y ∧ y ≤ 1099511627776 := by
  unfold okP Okay
  simp [addP]
theorem bh_add (c : MWater) (y : Int) : bh c (addP y) = ⟨c.flow, ⟨c.warm.lo + y / c.flow.hi, c.warm.hi + cl y c.flow.lo⟩⟩ := by
  unfold bh
  simp [addP]
theorem good_heat (limit : Int) {x y : Int} (hx : 0 ≤ x) (hxy : x ≤ y) (post : List MPoint) : ∀ (pre : List MPoint) (k : Nat) (c : MWater), okW c → good limit k c (pre ++ addP y :: post) → good limit k c (pre ++ addP x :: post)
  | [], k, c, hc, hg => by
    obtain ⟨g1, g2, g3⟩ := hg
    obtain ⟨hp, hb⟩ := stepS_ok hc g1
    have hy := okP_add.1 hp
    have hpx : okP (addP x) := okP_add.2 (by omega)
    have hC := hc
    obtain ⟨⟨f1, f2, f3⟩, _⟩ := hc
    have m : Wle (bh c (addP x)) (bh c (addP y)) := by
      rw [bh_add, bh_add]
      have e1 : x / c.flow.hi ≤ y / c.flow.hi := Int.ediv_le_ediv (by omega) hxy
      have e2 := cl_mono (D := c.flow.lo) (by omega) hxy
      exact ⟨rfl, by simp only; omega, by simp only; omega⟩
    have s : stepS c (addP x) = 0 := by
      obtain ⟨⟨b1, b2, b3⟩, ⟨b4, b5, b6⟩⟩ := hb
      obtain ⟨m1, m2, m3⟩ := m
      rw [← m1] at b1 b2 b3
      unfold stepS
      rw [if_neg (by simpa using hpx), if_neg (by omega), if_neg (by omega)]
    exact ⟨s, fun hk => Int.le_trans m.2.2 (g2 hk), good_mono limit post (k - 1) _ _ (stepS_ok hC s).2 hb m g3⟩
  | p :: pre, k, c, hc, hg => by
    obtain ⟨g1, g2, g3⟩ := hg
    exact ⟨g1, g2, good_heat limit hx hxy post pre (k - 1) (bh c p) (stepS_ok hc g1).2 g3⟩
/-- a heat fits, as a mark of it -/
def fitB (c : MWater) (l : List MPoint) (at' limit h : Int) : Bool := goodB limit at'.toNat c (insertP l at' h)
theorem fit_mono {c : MWater} {l : List MPoint} {at' limit x y : Int} (hc : okW c) (hx : 0 ≤ x) (hxy : x ≤ y) (h : fitB c l at' limit y = true) : fitB c l at' limit x = true :=
  (good_iff _ _ _ _).2 (good_heat limit hx hxy _ _ _ _ hc ((good_iff _ _ _ _).1 h))
end Go.Proofs.Ytlcccomdijdkaaa
namespace Go.Proofs.Ytlcccomdijdkaaa
open Go.RowKit

variable {P : Program} {X : Ctx} {E : Env} {a : Act} {w : World} {st : SState}

theorem pure_idxSm {lay : Lay} (hl : LayOK P lay) {B t g n j N es : Nat} {ag : Bool} {m : MState} {x y : Operand} {k : IntKind} {z : List Value} {eq : Bool} {by' : Nat} (ht : look lay t = some ⟨.arr N es ag, n, z, eq, by'⟩) (hj : j < N) : (Ob.pure m (.indexAddr t x y) [.own g 0, .v (.int k j)] (.own g (j * es))).holds P B := by
  intro E w R ρ dst ty pos aft gd _ hx
  have hx' : ρ x = .pointer (some ⟨E.ρ g, 0, none⟩) ∧ ρ y = .int k j := by simpa [Op.operands, SV.vals, SV.val] using hx
  obtain ⟨u, hu, hmm⟩ := (hl t _ ht).under
  obtain ⟨e, rfl, hkn, hes, _⟩ := hmm
  simp only [execOp, Instr.indexAt, hx'.1, hx'.2, asIntOf, Sem.run_bind, Sem.run_pure, Result.andThen_ok, run_underlying hu, Instr.sureAddr]
  rw [if_pos (by omega)]
  simp only [Sem.run_bind, knownB.run_size hkn, Result.andThen_ok, Sem.run_pure, ← hes, add_plain', SV.val, Int.toNat_natCast, Nat.zero_add]
end Go.Proofs.Ytlcccomdijdkaaa
namespace Go.Proofs.Ytlcccomdijdkaaa
open Go.RowKit Go.Proofs.Try

def wormtubref05_Fits_R (l : List MPoint) (heat : Int) : List (Nat × Q) := [(0, ⟨l.length, 9, fun i => pZ (l.getD i default)⟩)]
def wormtubref05_Fits_k1  (x1 : Unit) : Option Bool :=
some true
def wormtubref05_Fits_l1 (limit : Int) (r1 : (List MWater × Int × Int)) : Nat → Int → Option (Lp Unit Bool)
  | 0, _ => none
  | n + 1, b1 =>
    (bif decide (b1 < ((r1.1.length : Nat) : Int)) then
    (grd (((0 : Int) ≤ b1 ∧ (b1 : Int) < ((r1.1.length : Nat) : Int))) <|
    (bif decide (limit < (((r1.1.getD (Int.toNat b1) default).warm).hi)) then
    (some (Lp.ret false))
    else
    (grd (InI64 (b1 + 1)) <|
    wormtubref05_Fits_l1 limit r1 n (b1 + 1))))
    else
    (some (Lp.done ())))
def wormtubref05_Fits (fuel : Nat) (first : MWater) (l : List MPoint) (at' : Int) (limit : Int) (heat : Int) : Option Bool :=
grd (((0 : Int) ≤ 0 ∧ (0 : Int) ≤ at' ∧ at' ≤ ((l.length : Nat) : Int)) ∧ (([] : List MPoint).length + ((l.drop 0).take ((Int.toNat at') - 0)).length ≤ 1000000)) <|
grd (((([] : List MPoint) ++ ((l.drop 0).take ((Int.toNat at') - 0))).length + 1 ≤ 1000000)) <|
grd (((0 : Int) ≤ at' ∧ (at' : Int) ≤ ((l.length : Nat) : Int) ∧ ((l.length : Nat) : Int) ≤ ((l.length : Nat) : Int)) ∧ (((([] : List MPoint) ++ ((l.drop 0).take ((Int.toNat at') - 0))) ++ [(MPoint.mk 2 (MSpan.mk 0 0) (MSpan.mk 0 0) (MSpan.mk heat heat) (MSpan.mk 0 0))]).length + ((l.drop (Int.toNat at')).take (l.length - (Int.toNat at'))).length ≤ 1000000)) <|
(wormtubref05_flow fuel (MWater.mk (MSpan.mk first.flow.lo first.flow.hi) (MSpan.mk first.warm.lo first.warm.hi)) (((([] : List MPoint) ++ ((l.drop 0).take ((Int.toNat at') - 0))) ++ [(MPoint.mk 2 (MSpan.mk 0 0) (MSpan.mk 0 0) (MSpan.mk heat heat) (MSpan.mk 0 0))]) ++ ((l.drop (Int.toNat at')).take (l.length - (Int.toNat at'))))).bind fun (r1 : (List MWater × Int × Int)) =>
(bif (r1.2.2 != 0) then
(some false)
else
((wormtubref05_Fits_l1 limit r1 fuel at').bind fun lr1 => lr1.go fun x1 => wormtubref05_Fits_k1 x1))
set_option maxRecDepth 100000 in
set_option maxHeartbeats 4000000 in
theorem wormtubref05_Fits_ok (fuel : Nat) (first : MWater) (l : List MPoint) (at' : Int) (limit : Int) (heat : Int) (W : World) (A0 : Option Addr) (c0 : Nat) (h0 : l.length ≤ c0) (s0 : SlAt W A0 l.length 9 fun i => pZ (l.getD i default)) (res : Bool) (h : wormtubref05_Fits fuel first l at' limit heat = some res) :
    Calls Go.Proofs.Try.prog 45 #[.agg #[.int .i64 first.flow.lo, .int .i64 first.flow.hi, .int .i64 first.warm.lo, .int .i64 first.warm.hi], .slice A0 l.length c0, .int .i64 at', .int .i64 limit, .int .i64 heat] W fun e w' => e = .returned (.bool res) ∧ Below W.heap.size W w' := by
  refine sym_call (f := 45) (fn := Go.Proofs.Try.f45) (c := Go.Proofs.Try.f45.body.get rfl) Go.Proofs.Try.func45 rfl [.agg [iv (first.flow.lo), iv (first.flow.hi), iv (first.warm.lo), iv (first.warm.hi)], .sl 0, iv (at'), iv (limit), iv (heat)] (wormtubref05_Fits_R l heat) [] (envOf [(0, ⟨A0, l.length, c0, 9⟩)]) allR (fun _ _ => rfl) (by kernel_rfl) (envOf_one trivial) ⟨s0.rd h0, trivial⟩ (AllRR.all _ _) trivial fun E a w S => ?_
  rw [wormtubref05_Fits] at h
  refine sym_seq lay_ok mixed [(0, { g := 0 })] [1, 2, 3, 4, 5] [0] (⟨[(1, .sl 0), (2, iv (at')), (3, iv (limit)), (4, iv (heat)), (5, .own 0 0)], ⟨[(0, .blk 25 [iv (first.flow.lo), iv (first.flow.hi), iv (first.warm.lo), iv (first.warm.hi)])], (wormtubref05_Fits_R l heat), []⟩⟩) [] S (by kernel_rfl) (by kernel_rfl) (by kernel_rfl) trivial ?_
  clear S; intro E a w S
  obtain ⟨⟨g1, g2⟩, h⟩ := grd_some h
  refine sym_open ?_
  refine sym_runP lay_ok [(0, { g := 1 })] 0 3 [1, 2, 3, 4, 5, 16, 17, 18] [0, 1] (⟨[(1, .sl 0), (2, iv (at')), (3, iv (limit)), (4, iv (heat)), (5, .own 0 0), (16, .row 1 0 0 0), (17, .sl 0), (18, iv (at'))], ⟨[(0, .blk 25 [iv (first.flow.lo), iv (first.flow.hi), iv (first.warm.lo), iv (first.warm.hi)]), (1, .blk 47 [])], (wormtubref05_Fits_R l heat), []⟩⟩) [] S (by kernel_rfl) (by kernel_rfl) trivial ?_
  clear S; intro E a w S
  refine sym_runP lay_ok [] 3 1 [1, 2, 3, 4, 5, 16, 17, 18, 19] [0, 1] (⟨[(1, .sl 0), (2, iv (at')), (3, iv (limit)), (4, iv (heat)), (5, .own 0 0), (16, .row 1 0 0 0), (17, .sl 0), (18, iv (at')), (19, .sub 0 0 (Int.toNat at'))], ⟨[(0, .blk 25 [iv (first.flow.lo), iv (first.flow.hi), iv (first.warm.lo), iv (first.warm.hi)]), (1, .blk 47 [])], (wormtubref05_Fits_R l heat), []⟩⟩) [.sub 0 at' l.length] S (by kernel_rfl) (by kernel_rfl) ⟨g1, trivial⟩ ?_
  clear S; intro E a w S
  have S := S.subrd 0 1001 0 (Int.toNat at') ⟨l.length, 9, fun i => pZ (l.getD i default)⟩ ⟨((l.drop 0).take ((Int.toNat at') - 0)).length, 9, fun i => pZ (((l.drop 0).take ((Int.toNat at') - 0)).getD i default)⟩ rfl (show 0 ≤ (Int.toNat at') by have := g1; omega) (show (Int.toNat at') ≤ l.length by have := g1; omega) rfl (sub_len _ _ _ (by have := g1; omega)) (fun i hi => by simp only [sub_getD _ _ _ _ hi]) (by kernel_rfl)
  have S := S.reslot (t := 19) (sv' := .sl 1001) rfl (by simp [SV.val, subV, Env.updS])
  obtain ⟨E, S⟩ : ∃ E, St ⟨W, noC, Go.Proofs.Try.f45.ntmps, [], allR, noρ, (envOf [(0, ⟨A0, l.length, c0, 9⟩)]).sl, (envOf [(0, ⟨A0, l.length, c0, 9⟩)]).x⟩ (⟨[(1, .sl 0), (2, iv (at')), (3, iv (limit)), (4, iv (heat)), (5, .own 0 0), (16, .row 1 0 0 0), (17, .sl 0), (18, iv (at')), (19, .sl 1001)], ⟨[(0, .blk 25 [iv (first.flow.lo), iv (first.flow.hi), iv (first.warm.lo), iv (first.warm.hi)]), (1, .blk 47 [])], ((1001, ⟨((l.drop 0).take ((Int.toNat at') - 0)).length, 9, fun i => pZ (((l.drop 0).take ((Int.toNat at') - 0)).getD i default)⟩) :: (wormtubref05_Fits_R l heat)), []⟩⟩) E a w := ⟨_, St.pickG S [1, 2, 3, 4, 5, 16, 17, 18, 19] [0, 1] [] (⟨[(1, .sl 0), (2, iv (at')), (3, iv (limit)), (4, iv (heat)), (5, .own 0 0), (16, .row 1 0 0 0), (17, .sl 0), (18, iv (at')), (19, .sl 1001)], ⟨[(0, .blk 25 [iv (first.flow.lo), iv (first.flow.hi), iv (first.warm.lo), iv (first.warm.hi)]), (1, .blk 47 [])], ((1001, ⟨((l.drop 0).take ((Int.toNat at') - 0)).length, 9, fun i => pZ (((l.drop 0).take ((Int.toNat at') - 0)).getD i default)⟩) :: (wormtubref05_Fits_R l heat)), []⟩⟩) (by kernel_rfl)⟩
  have S := S.rowgr 1 0 rfl ⟨47, 9, ([] : List MPoint).length, ([] : List MPoint).flatMap (fun x => [.int .i64 x.kind, .int .i64 x.flow.lo, .int .i64 x.flow.hi, .int .i64 x.warm.lo, .int .i64 x.warm.hi, .int .i64 x.heat.lo, .int .i64 x.heat.hi, .int .i64 x.share.lo, .int .i64 x.share.hi])⟩ (.slice (some ⟨E.ρ 1, 0, none⟩) 0 0) rfl (S.litgr rfl 9 0 _ rfl (by decide) (by simp [SV.vals, SV.val])) rfl [1, 2, 3, 4, 5, 16, 17, 18, 19] [0] (by kernel_rfl)
  have S := S.reslot (t := 16) (sv' := .gr 0) rfl (by simp [SV.val, SV.subG, Env.updG])
  obtain ⟨E, S⟩ : ∃ E, St ⟨W, noC, Go.Proofs.Try.f45.ntmps, [], allR, noρ, (envOf [(0, ⟨A0, l.length, c0, 9⟩)]).sl, (envOf [(0, ⟨A0, l.length, c0, 9⟩)]).x⟩ (⟨[(1, .sl 0), (2, iv (at')), (3, iv (limit)), (4, iv (heat)), (5, .own 0 0), (16, .gr 0), (17, .sl 0), (18, iv (at')), (19, .sl 1001)], ⟨[(0, .blk 25 [iv (first.flow.lo), iv (first.flow.hi), iv (first.warm.lo), iv (first.warm.hi)])], ((1001, ⟨((l.drop 0).take ((Int.toNat at') - 0)).length, 9, fun i => pZ (((l.drop 0).take ((Int.toNat at') - 0)).getD i default)⟩) :: (wormtubref05_Fits_R l heat)), [(0, ⟨47, 9, ([] : List MPoint).length, ([] : List MPoint).flatMap (fun x => [.int .i64 x.kind, .int .i64 x.flow.lo, .int .i64 x.flow.hi, .int .i64 x.warm.lo, .int .i64 x.warm.hi, .int .i64 x.heat.lo, .int .i64 x.heat.hi, .int .i64 x.share.lo, .int .i64 x.share.hi])⟩)]⟩⟩) E a w := ⟨_, St.pickG S [1, 2, 3, 4, 5, 16, 17, 18, 19] [0] [0] (⟨[(1, .sl 0), (2, iv (at')), (3, iv (limit)), (4, iv (heat)), (5, .own 0 0), (16, .gr 0), (17, .sl 0), (18, iv (at')), (19, .sl 1001)], ⟨[(0, .blk 25 [iv (first.flow.lo), iv (first.flow.hi), iv (first.warm.lo), iv (first.warm.hi)])], ((1001, ⟨((l.drop 0).take ((Int.toNat at') - 0)).length, 9, fun i => pZ (((l.drop 0).take ((Int.toNat at') - 0)).getD i default)⟩) :: (wormtubref05_Fits_R l heat)), [(0, ⟨47, 9, ([] : List MPoint).length, ([] : List MPoint).flatMap (fun x => [.int .i64 x.kind, .int .i64 x.flow.lo, .int .i64 x.flow.hi, .int .i64 x.warm.lo, .int .i64 x.warm.hi, .int .i64 x.heat.lo, .int .i64 x.heat.hi, .int .i64 x.share.lo, .int .i64 x.share.hi])⟩)]⟩⟩) (by kernel_rfl)⟩
  refine sym_appendS lay_ok rfl (.tmp 16) (.tmp 19) 26 rfl rfl S 0 1001 ⟨47, 9, ([] : List MPoint).length, ([] : List MPoint).flatMap (fun x => [.int .i64 x.kind, .int .i64 x.flow.lo, .int .i64 x.flow.hi, .int .i64 x.warm.lo, .int .i64 x.warm.hi, .int .i64 x.heat.lo, .int .i64 x.heat.hi, .int .i64 x.share.lo, .int .i64 x.share.hi])⟩ ⟨((l.drop 0).take ((Int.toNat at') - 0)).length, 9, fun i => pZ (((l.drop 0).take ((Int.toNat at') - 0)).getD i default)⟩ ⟨.str [(0, 1, false), (1, 2, true), (3, 2, true), (5, 2, true), (7, 2, true)], 9, [.int .i64 0, .int .i64 0, .int .i64 0, .int .i64 0, .int .i64 0, .int .i64 0, .int .i64 0, .int .i64 0, .int .i64 0], false, 72⟩ ⟨.sli 47 9, 1, [.slice none 0 0], false, 24⟩ (((l.drop 0).take ((Int.toNat at') - 0)).flatMap (fun x => [.int .i64 x.kind, .int .i64 x.flow.lo, .int .i64 x.flow.hi, .int .i64 x.warm.lo, .int .i64 x.warm.hi, .int .i64 x.heat.lo, .int .i64 x.heat.hi, .int .i64 x.share.lo, .int .i64 x.share.hi])) rfl rfl rfl rfl rfl rfl rfl rfl rfl (show 0 < 9 by decide) (flat_len (fun x => [.int .i64 x.kind, .int .i64 x.flow.lo, .int .i64 x.flow.hi, .int .i64 x.warm.lo, .int .i64 x.warm.hi, .int .i64 x.heat.lo, .int .i64 x.heat.hi, .int .i64 x.share.lo, .int .i64 x.share.hi]) 9 (fun _ => rfl) ((l.drop 0).take ((Int.toNat at') - 0))) (fun j v hv => flat_find (fun x => [.int .i64 x.kind, .int .i64 x.flow.lo, .int .i64 x.flow.hi, .int .i64 x.warm.lo, .int .i64 x.warm.hi, .int .i64 x.heat.lo, .int .i64 x.heat.hi, .int .i64 x.share.lo, .int .i64 x.share.hi]) 9 (fun _ => rfl) ((l.drop 0).take ((Int.toNat at') - 0)) j v hv) (fun v hv => by obtain ⟨x, _, hx⟩ := List.mem_flatMap.1 hv; simp only [List.mem_cons, List.not_mem_nil, or_false] at hx; rcases hx with rfl | rfl | rfl | rfl | rfl | rfl | rfl | rfl | rfl <;> rfl) (fun e he => by cases he; exact Nat.lt_of_succ_le (Nat.le_of_ble_eq_true rfl)) ⟨47, 9, (([] : List MPoint) ++ ((l.drop 0).take ((Int.toNat at') - 0))).length, (([] : List MPoint) ++ ((l.drop 0).take ((Int.toNat at') - 0))).flatMap (fun x => [.int .i64 x.kind, .int .i64 x.flow.lo, .int .i64 x.flow.hi, .int .i64 x.warm.lo, .int .i64 x.warm.hi, .int .i64 x.heat.lo, .int .i64 x.heat.hi, .int .i64 x.share.lo, .int .i64 x.share.hi])⟩ rfl rfl (by first | (simp; done) | (simp; omega)) (by simp) (Nat.le_trans g2 (by decide)) (show (([] : List MPoint).length + ((l.drop 0).take ((Int.toNat at') - 0)).length) * 72 ≤ 140737488355328 by have := g2; omega) ?_
  clear S; intro v0 E a w S; have S := St.pickG S [1, 2, 3, 4, 5, 19, 20] [0] [0] (⟨[(1, .sl 0), (2, iv (at')), (3, iv (limit)), (4, iv (heat)), (5, .own 0 0), (19, .sl 1001), (20, .gr 0)], ⟨[(0, .blk 25 [iv (first.flow.lo), iv (first.flow.hi), iv (first.warm.lo), iv (first.warm.hi)])], ((1001, ⟨((l.drop 0).take ((Int.toNat at') - 0)).length, 9, fun i => pZ (((l.drop 0).take ((Int.toNat at') - 0)).getD i default)⟩) :: (wormtubref05_Fits_R l heat)), [(0, ⟨47, 9, (([] : List MPoint) ++ ((l.drop 0).take ((Int.toNat at') - 0))).length, (([] : List MPoint) ++ ((l.drop 0).take ((Int.toNat at') - 0))).flatMap (fun x => [.int .i64 x.kind, .int .i64 x.flow.lo, .int .i64 x.flow.hi, .int .i64 x.warm.lo, .int .i64 x.warm.hi, .int .i64 x.heat.lo, .int .i64 x.heat.hi, .int .i64 x.share.lo, .int .i64 x.share.hi])⟩)]⟩⟩) (by kernel_rfl)
  refine sym_runP lay_ok [] 5 1 [1, 2, 3, 4, 5, 11] [0] (⟨[(1, .sl 0), (2, iv (at')), (3, iv (limit)), (4, iv (heat)), (5, .own 0 0), (11, .gr 0)], ⟨[(0, .blk 25 [iv (first.flow.lo), iv (first.flow.hi), iv (first.warm.lo), iv (first.warm.hi)])], ((1001, ⟨((l.drop 0).take ((Int.toNat at') - 0)).length, 9, fun i => pZ (((l.drop 0).take ((Int.toNat at') - 0)).getD i default)⟩) :: (wormtubref05_Fits_R l heat)), [(0, ⟨47, 9, (([] : List MPoint) ++ ((l.drop 0).take ((Int.toNat at') - 0))).length, (([] : List MPoint) ++ ((l.drop 0).take ((Int.toNat at') - 0))).flatMap (fun x => [.int .i64 x.kind, .int .i64 x.flow.lo, .int .i64 x.flow.hi, .int .i64 x.warm.lo, .int .i64 x.warm.hi, .int .i64 x.heat.lo, .int .i64 x.heat.hi, .int .i64 x.share.lo, .int .i64 x.share.hi])⟩)]⟩⟩) [] S (by kernel_rfl) (by kernel_rfl) trivial ?_
  clear S; intro E a w S
  refine sym_done rfl ?_
  refine out_then_normal ?_
  have S := St.pickG S [1, 2, 3, 4, 5, 11] [0] [0] (⟨[(1, .sl 0), (2, iv (at')), (3, iv (limit)), (4, iv (heat)), (5, .own 0 0), (11, .gr 0)], ⟨[(0, .blk 25 [iv (first.flow.lo), iv (first.flow.hi), iv (first.warm.lo), iv (first.warm.hi)])], ((1001, ⟨((l.drop 0).take ((Int.toNat at') - 0)).length, 9, fun i => pZ (((l.drop 0).take ((Int.toNat at') - 0)).getD i default)⟩) :: (wormtubref05_Fits_R l heat)), [(0, ⟨47, 9, (([] : List MPoint) ++ ((l.drop 0).take ((Int.toNat at') - 0))).length, (([] : List MPoint) ++ ((l.drop 0).take ((Int.toNat at') - 0))).flatMap (fun x => [.int .i64 x.kind, .int .i64 x.flow.lo, .int .i64 x.flow.hi, .int .i64 x.warm.lo, .int .i64 x.warm.hi, .int .i64 x.heat.lo, .int .i64 x.heat.hi, .int .i64 x.share.lo, .int .i64 x.share.hi])⟩)]⟩⟩) (by kernel_rfl)
  obtain ⟨g3, h⟩ := grd_some h
  refine sym_open ?_
  refine sym_runP lay_ok [(5, { g := 2 })] 0 6 [1, 2, 3, 5, 11, 21, 26] [0, 2] (⟨[(1, .sl 0), (2, iv (at')), (3, iv (limit)), (5, .own 0 0), (11, .gr 0), (21, .gr 0), (26, .row 2 0 1 1)], ⟨[(0, .blk 25 [iv (first.flow.lo), iv (first.flow.hi), iv (first.warm.lo), iv (first.warm.hi)]), (2, .blk 47 [iv (2), iv (0), iv (0), iv (0), iv (0), iv (heat), iv (heat), iv (0), iv (0)])], ((1001, ⟨((l.drop 0).take ((Int.toNat at') - 0)).length, 9, fun i => pZ (((l.drop 0).take ((Int.toNat at') - 0)).getD i default)⟩) :: (wormtubref05_Fits_R l heat)), [(0, ⟨47, 9, (([] : List MPoint) ++ ((l.drop 0).take ((Int.toNat at') - 0))).length, (([] : List MPoint) ++ ((l.drop 0).take ((Int.toNat at') - 0))).flatMap (fun x => [.int .i64 x.kind, .int .i64 x.flow.lo, .int .i64 x.flow.hi, .int .i64 x.warm.lo, .int .i64 x.warm.hi, .int .i64 x.heat.lo, .int .i64 x.heat.hi, .int .i64 x.share.lo, .int .i64 x.share.hi])⟩)]⟩⟩) [] S (by kernel_rfl) (by kernel_rfl) trivial ?_
  clear S; intro E a w S
  refine sym_append lay_ok rfl (.tmp 21) (.tmp 26) 26 rfl rfl S 0 2 0 1 1 47 [iv (2), iv (0), iv (0), iv (0), iv (0), iv (heat), iv (heat), iv (0), iv (0)] ⟨47, 9, (([] : List MPoint) ++ ((l.drop 0).take ((Int.toNat at') - 0))).length, (([] : List MPoint) ++ ((l.drop 0).take ((Int.toNat at') - 0))).flatMap (fun x => [.int .i64 x.kind, .int .i64 x.flow.lo, .int .i64 x.flow.hi, .int .i64 x.warm.lo, .int .i64 x.warm.hi, .int .i64 x.heat.lo, .int .i64 x.heat.hi, .int .i64 x.share.lo, .int .i64 x.share.hi])⟩ ⟨.str [(0, 1, false), (1, 2, true), (3, 2, true), (5, 2, true), (7, 2, true)], 9, [.int .i64 0, .int .i64 0, .int .i64 0, .int .i64 0, .int .i64 0, .int .i64 0, .int .i64 0, .int .i64 0, .int .i64 0], false, 72⟩ ⟨.sli 47 9, 1, [.slice none 0 0], false, 24⟩ rfl rfl rfl rfl rfl rfl rfl rfl (show 0 < 9 by decide) rfl rfl (fun e he => by cases he; exact Nat.lt_of_succ_le (Nat.le_of_ble_eq_true rfl)) ⟨47, 9, ((([] : List MPoint) ++ ((l.drop 0).take ((Int.toNat at') - 0))) ++ [(MPoint.mk 2 (MSpan.mk 0 0) (MSpan.mk 0 0) (MSpan.mk heat heat) (MSpan.mk 0 0))]).length, ((([] : List MPoint) ++ ((l.drop 0).take ((Int.toNat at') - 0))) ++ [(MPoint.mk 2 (MSpan.mk 0 0) (MSpan.mk 0 0) (MSpan.mk heat heat) (MSpan.mk 0 0))]).flatMap (fun x => [.int .i64 x.kind, .int .i64 x.flow.lo, .int .i64 x.flow.hi, .int .i64 x.warm.lo, .int .i64 x.warm.hi, .int .i64 x.heat.lo, .int .i64 x.heat.hi, .int .i64 x.share.lo, .int .i64 x.share.hi])⟩ rfl rfl (by simp) (fun E => by simp [SV.vals, SV.val]) (Nat.le_trans g3 (by decide)) (show ((([] : List MPoint) ++ ((l.drop 0).take ((Int.toNat at') - 0))).length + 1) * 72 ≤ 140737488355328 by have := g3; omega) rfl ?_
  clear S; intro v0 E a w S; have S := St.pickG S [1, 2, 3, 5, 26, 27] [0, 2] [0] (⟨[(1, .sl 0), (2, iv (at')), (3, iv (limit)), (5, .own 0 0), (26, .row 2 0 1 1), (27, .gr 0)], ⟨[(0, .blk 25 [iv (first.flow.lo), iv (first.flow.hi), iv (first.warm.lo), iv (first.warm.hi)]), (2, .blk 47 [iv (2), iv (0), iv (0), iv (0), iv (0), iv (heat), iv (heat), iv (0), iv (0)])], ((1001, ⟨((l.drop 0).take ((Int.toNat at') - 0)).length, 9, fun i => pZ (((l.drop 0).take ((Int.toNat at') - 0)).getD i default)⟩) :: (wormtubref05_Fits_R l heat)), [(0, ⟨47, 9, ((([] : List MPoint) ++ ((l.drop 0).take ((Int.toNat at') - 0))) ++ [(MPoint.mk 2 (MSpan.mk 0 0) (MSpan.mk 0 0) (MSpan.mk heat heat) (MSpan.mk 0 0))]).length, ((([] : List MPoint) ++ ((l.drop 0).take ((Int.toNat at') - 0))) ++ [(MPoint.mk 2 (MSpan.mk 0 0) (MSpan.mk 0 0) (MSpan.mk heat heat) (MSpan.mk 0 0))]).flatMap (fun x => [.int .i64 x.kind, .int .i64 x.flow.lo, .int .i64 x.flow.hi, .int .i64 x.warm.lo, .int .i64 x.warm.hi, .int .i64 x.heat.lo, .int .i64 x.heat.hi, .int .i64 x.share.lo, .int .i64 x.share.hi])⟩)]⟩⟩) (by kernel_rfl)
  refine sym_runP lay_ok [] 7 1 [1, 2, 3, 5, 11] [0] (⟨[(1, .sl 0), (2, iv (at')), (3, iv (limit)), (5, .own 0 0), (11, .gr 0)], ⟨[(0, .blk 25 [iv (first.flow.lo), iv (first.flow.hi), iv (first.warm.lo), iv (first.warm.hi)])], ((1001, ⟨((l.drop 0).take ((Int.toNat at') - 0)).length, 9, fun i => pZ (((l.drop 0).take ((Int.toNat at') - 0)).getD i default)⟩) :: (wormtubref05_Fits_R l heat)), [(0, ⟨47, 9, ((([] : List MPoint) ++ ((l.drop 0).take ((Int.toNat at') - 0))) ++ [(MPoint.mk 2 (MSpan.mk 0 0) (MSpan.mk 0 0) (MSpan.mk heat heat) (MSpan.mk 0 0))]).length, ((([] : List MPoint) ++ ((l.drop 0).take ((Int.toNat at') - 0))) ++ [(MPoint.mk 2 (MSpan.mk 0 0) (MSpan.mk 0 0) (MSpan.mk heat heat) (MSpan.mk 0 0))]).flatMap (fun x => [.int .i64 x.kind, .int .i64 x.flow.lo, .int .i64 x.flow.hi, .int .i64 x.warm.lo, .int .i64 x.warm.hi, .int .i64 x.heat.lo, .int .i64 x.heat.hi, .int .i64 x.share.lo, .int .i64 x.share.hi])⟩)]⟩⟩) [] S (by kernel_rfl) (by kernel_rfl) trivial ?_
  clear S; intro E a w S
  refine sym_done rfl ?_
  refine out_then_normal ?_
  have S := St.pickG S [1, 2, 3, 5, 11] [0] [0] (⟨[(1, .sl 0), (2, iv (at')), (3, iv (limit)), (5, .own 0 0), (11, .gr 0)], ⟨[(0, .blk 25 [iv (first.flow.lo), iv (first.flow.hi), iv (first.warm.lo), iv (first.warm.hi)])], ((1001, ⟨((l.drop 0).take ((Int.toNat at') - 0)).length, 9, fun i => pZ (((l.drop 0).take ((Int.toNat at') - 0)).getD i default)⟩) :: (wormtubref05_Fits_R l heat)), [(0, ⟨47, 9, ((([] : List MPoint) ++ ((l.drop 0).take ((Int.toNat at') - 0))) ++ [(MPoint.mk 2 (MSpan.mk 0 0) (MSpan.mk 0 0) (MSpan.mk heat heat) (MSpan.mk 0 0))]).length, ((([] : List MPoint) ++ ((l.drop 0).take ((Int.toNat at') - 0))) ++ [(MPoint.mk 2 (MSpan.mk 0 0) (MSpan.mk 0 0) (MSpan.mk heat heat) (MSpan.mk 0 0))]).flatMap (fun x => [.int .i64 x.kind, .int .i64 x.flow.lo, .int .i64 x.flow.hi, .int .i64 x.warm.lo, .int .i64 x.warm.hi, .int .i64 x.heat.lo, .int .i64 x.heat.hi, .int .i64 x.share.lo, .int .i64 x.share.hi])⟩)]⟩⟩) (by kernel_rfl)
  obtain ⟨⟨g4, g5⟩, h⟩ := grd_some h
  refine sym_open ?_
  refine sym_runP lay_ok [] 0 3 [2, 3, 5, 11, 28, 29, 30] [0] (⟨[(2, iv (at')), (3, iv (limit)), (5, .own 0 0), (11, .gr 0), (28, .gr 0), (29, .sl 0), (30, iv (at'))], ⟨[(0, .blk 25 [iv (first.flow.lo), iv (first.flow.hi), iv (first.warm.lo), iv (first.warm.hi)])], ((1001, ⟨((l.drop 0).take ((Int.toNat at') - 0)).length, 9, fun i => pZ (((l.drop 0).take ((Int.toNat at') - 0)).getD i default)⟩) :: (wormtubref05_Fits_R l heat)), [(0, ⟨47, 9, ((([] : List MPoint) ++ ((l.drop 0).take ((Int.toNat at') - 0))) ++ [(MPoint.mk 2 (MSpan.mk 0 0) (MSpan.mk 0 0) (MSpan.mk heat heat) (MSpan.mk 0 0))]).length, ((([] : List MPoint) ++ ((l.drop 0).take ((Int.toNat at') - 0))) ++ [(MPoint.mk 2 (MSpan.mk 0 0) (MSpan.mk 0 0) (MSpan.mk heat heat) (MSpan.mk 0 0))]).flatMap (fun x => [.int .i64 x.kind, .int .i64 x.flow.lo, .int .i64 x.flow.hi, .int .i64 x.warm.lo, .int .i64 x.warm.hi, .int .i64 x.heat.lo, .int .i64 x.heat.hi, .int .i64 x.share.lo, .int .i64 x.share.hi])⟩)]⟩⟩) [] S (by kernel_rfl) (by kernel_rfl) trivial ?_
  clear S; intro E a w S
  refine sym_runP lay_ok [] 3 1 [2, 3, 5, 11, 28, 29, 30, 31] [0] (⟨[(2, iv (at')), (3, iv (limit)), (5, .own 0 0), (11, .gr 0), (28, .gr 0), (29, .sl 0), (30, iv (at')), (31, .sub 0 (Int.toNat at') l.length)], ⟨[(0, .blk 25 [iv (first.flow.lo), iv (first.flow.hi), iv (first.warm.lo), iv (first.warm.hi)])], ((1001, ⟨((l.drop 0).take ((Int.toNat at') - 0)).length, 9, fun i => pZ (((l.drop 0).take ((Int.toNat at') - 0)).getD i default)⟩) :: (wormtubref05_Fits_R l heat)), [(0, ⟨47, 9, ((([] : List MPoint) ++ ((l.drop 0).take ((Int.toNat at') - 0))) ++ [(MPoint.mk 2 (MSpan.mk 0 0) (MSpan.mk 0 0) (MSpan.mk heat heat) (MSpan.mk 0 0))]).length, ((([] : List MPoint) ++ ((l.drop 0).take ((Int.toNat at') - 0))) ++ [(MPoint.mk 2 (MSpan.mk 0 0) (MSpan.mk 0 0) (MSpan.mk heat heat) (MSpan.mk 0 0))]).flatMap (fun x => [.int .i64 x.kind, .int .i64 x.flow.lo, .int .i64 x.flow.hi, .int .i64 x.warm.lo, .int .i64 x.warm.hi, .int .i64 x.heat.lo, .int .i64 x.heat.hi, .int .i64 x.share.lo, .int .i64 x.share.hi])⟩)]⟩⟩) [.sub at' ((l.length : Nat) : Int) l.length] S (by kernel_rfl) (by kernel_rfl) ⟨g4, trivial⟩ ?_
  clear S; intro E a w S
  have S := S.subrd 0 1002 (Int.toNat at') l.length ⟨l.length, 9, fun i => pZ (l.getD i default)⟩ ⟨((l.drop (Int.toNat at')).take (l.length - (Int.toNat at'))).length, 9, fun i => pZ (((l.drop (Int.toNat at')).take (l.length - (Int.toNat at'))).getD i default)⟩ rfl (show (Int.toNat at') ≤ l.length by have := g4; omega) (show l.length ≤ l.length by have := g4; omega) rfl (sub_len _ _ _ (by have := g4; omega)) (fun i hi => by simp only [sub_getD _ _ _ _ hi]) (by kernel_rfl)
  have S := S.reslot (t := 31) (sv' := .sl 1002) rfl (by simp [SV.val, subV, Env.updS])
  obtain ⟨E, S⟩ : ∃ E, St ⟨W, noC, Go.Proofs.Try.f45.ntmps, [], allR, noρ, (envOf [(0, ⟨A0, l.length, c0, 9⟩)]).sl, (envOf [(0, ⟨A0, l.length, c0, 9⟩)]).x⟩ (⟨[(2, iv (at')), (3, iv (limit)), (5, .own 0 0), (11, .gr 0), (28, .gr 0), (29, .sl 0), (30, iv (at')), (31, .sl 1002)], ⟨[(0, .blk 25 [iv (first.flow.lo), iv (first.flow.hi), iv (first.warm.lo), iv (first.warm.hi)])], ((1002, ⟨((l.drop (Int.toNat at')).take (l.length - (Int.toNat at'))).length, 9, fun i => pZ (((l.drop (Int.toNat at')).take (l.length - (Int.toNat at'))).getD i default)⟩) :: ((1001, ⟨((l.drop 0).take ((Int.toNat at') - 0)).length, 9, fun i => pZ (((l.drop 0).take ((Int.toNat at') - 0)).getD i default)⟩) :: (wormtubref05_Fits_R l heat))), [(0, ⟨47, 9, ((([] : List MPoint) ++ ((l.drop 0).take ((Int.toNat at') - 0))) ++ [(MPoint.mk 2 (MSpan.mk 0 0) (MSpan.mk 0 0) (MSpan.mk heat heat) (MSpan.mk 0 0))]).length, ((([] : List MPoint) ++ ((l.drop 0).take ((Int.toNat at') - 0))) ++ [(MPoint.mk 2 (MSpan.mk 0 0) (MSpan.mk 0 0) (MSpan.mk heat heat) (MSpan.mk 0 0))]).flatMap (fun x => [.int .i64 x.kind, .int .i64 x.flow.lo, .int .i64 x.flow.hi, .int .i64 x.warm.lo, .int .i64 x.warm.hi, .int .i64 x.heat.lo, .int .i64 x.heat.hi, .int .i64 x.share.lo, .int .i64 x.share.hi])⟩)]⟩⟩) E a w := ⟨_, St.pickG S [2, 3, 5, 11, 28, 29, 30, 31] [0] [0] (⟨[(2, iv (at')), (3, iv (limit)), (5, .own 0 0), (11, .gr 0), (28, .gr 0), (29, .sl 0), (30, iv (at')), (31, .sl 1002)], ⟨[(0, .blk 25 [iv (first.flow.lo), iv (first.flow.hi), iv (first.warm.lo), iv (first.warm.hi)])], ((1002, ⟨((l.drop (Int.toNat at')).take (l.length - (Int.toNat at'))).length, 9, fun i => pZ (((l.drop (Int.toNat at')).take (l.length - (Int.toNat at'))).getD i default)⟩) :: ((1001, ⟨((l.drop 0).take ((Int.toNat at') - 0)).length, 9, fun i => pZ (((l.drop 0).take ((Int.toNat at') - 0)).getD i default)⟩) :: (wormtubref05_Fits_R l heat))), [(0, ⟨47, 9, ((([] : List MPoint) ++ ((l.drop 0).take ((Int.toNat at') - 0))) ++ [(MPoint.mk 2 (MSpan.mk 0 0) (MSpan.mk 0 0) (MSpan.mk heat heat) (MSpan.mk 0 0))]).length, ((([] : List MPoint) ++ ((l.drop 0).take ((Int.toNat at') - 0))) ++ [(MPoint.mk 2 (MSpan.mk 0 0) (MSpan.mk 0 0) (MSpan.mk heat heat) (MSpan.mk 0 0))]).flatMap (fun x => [.int .i64 x.kind, .int .i64 x.flow.lo, .int .i64 x.flow.hi, .int .i64 x.warm.lo, .int .i64 x.warm.hi, .int .i64 x.heat.lo, .int .i64 x.heat.hi, .int .i64 x.share.lo, .int .i64 x.share.hi])⟩)]⟩⟩) (by kernel_rfl)⟩
  refine sym_appendS lay_ok rfl (.tmp 28) (.tmp 31) 26 rfl rfl S 0 1002 ⟨47, 9, ((([] : List MPoint) ++ ((l.drop 0).take ((Int.toNat at') - 0))) ++ [(MPoint.mk 2 (MSpan.mk 0 0) (MSpan.mk 0 0) (MSpan.mk heat heat) (MSpan.mk 0 0))]).length, ((([] : List MPoint) ++ ((l.drop 0).take ((Int.toNat at') - 0))) ++ [(MPoint.mk 2 (MSpan.mk 0 0) (MSpan.mk 0 0) (MSpan.mk heat heat) (MSpan.mk 0 0))]).flatMap (fun x => [.int .i64 x.kind, .int .i64 x.flow.lo, .int .i64 x.flow.hi, .int .i64 x.warm.lo, .int .i64 x.warm.hi, .int .i64 x.heat.lo, .int .i64 x.heat.hi, .int .i64 x.share.lo, .int .i64 x.share.hi])⟩ ⟨((l.drop (Int.toNat at')).take (l.length - (Int.toNat at'))).length, 9, fun i => pZ (((l.drop (Int.toNat at')).take (l.length - (Int.toNat at'))).getD i default)⟩ ⟨.str [(0, 1, false), (1, 2, true), (3, 2, true), (5, 2, true), (7, 2, true)], 9, [.int .i64 0, .int .i64 0, .int .i64 0, .int .i64 0, .int .i64 0, .int .i64 0, .int .i64 0, .int .i64 0, .int .i64 0], false, 72⟩ ⟨.sli 47 9, 1, [.slice none 0 0], false, 24⟩ (((l.drop (Int.toNat at')).take (l.length - (Int.toNat at'))).flatMap (fun x => [.int .i64 x.kind, .int .i64 x.flow.lo, .int .i64 x.flow.hi, .int .i64 x.warm.lo, .int .i64 x.warm.hi, .int .i64 x.heat.lo, .int .i64 x.heat.hi, .int .i64 x.share.lo, .int .i64 x.share.hi])) rfl rfl rfl rfl rfl rfl rfl rfl rfl (show 0 < 9 by decide) (flat_len (fun x => [.int .i64 x.kind, .int .i64 x.flow.lo, .int .i64 x.flow.hi, .int .i64 x.warm.lo, .int .i64 x.warm.hi, .int .i64 x.heat.lo, .int .i64 x.heat.hi, .int .i64 x.share.lo, .int .i64 x.share.hi]) 9 (fun _ => rfl) ((l.drop (Int.toNat at')).take (l.length - (Int.toNat at')))) (fun j v hv => flat_find (fun x => [.int .i64 x.kind, .int .i64 x.flow.lo, .int .i64 x.flow.hi, .int .i64 x.warm.lo, .int .i64 x.warm.hi, .int .i64 x.heat.lo, .int .i64 x.heat.hi, .int .i64 x.share.lo, .int .i64 x.share.hi]) 9 (fun _ => rfl) ((l.drop (Int.toNat at')).take (l.length - (Int.toNat at'))) j v hv) (fun v hv => by obtain ⟨x, _, hx⟩ := List.mem_flatMap.1 hv; simp only [List.mem_cons, List.not_mem_nil, or_false] at hx; rcases hx with rfl | rfl | rfl | rfl | rfl | rfl | rfl | rfl | rfl <;> rfl) (fun e he => by cases he; exact Nat.lt_of_succ_le (Nat.le_of_ble_eq_true rfl)) ⟨47, 9, (((([] : List MPoint) ++ ((l.drop 0).take ((Int.toNat at') - 0))) ++ [(MPoint.mk 2 (MSpan.mk 0 0) (MSpan.mk 0 0) (MSpan.mk heat heat) (MSpan.mk 0 0))]) ++ ((l.drop (Int.toNat at')).take (l.length - (Int.toNat at')))).length, (((([] : List MPoint) ++ ((l.drop 0).take ((Int.toNat at') - 0))) ++ [(MPoint.mk 2 (MSpan.mk 0 0) (MSpan.mk 0 0) (MSpan.mk heat heat) (MSpan.mk 0 0))]) ++ ((l.drop (Int.toNat at')).take (l.length - (Int.toNat at')))).flatMap (fun x => [.int .i64 x.kind, .int .i64 x.flow.lo, .int .i64 x.flow.hi, .int .i64 x.warm.lo, .int .i64 x.warm.hi, .int .i64 x.heat.lo, .int .i64 x.heat.hi, .int .i64 x.share.lo, .int .i64 x.share.hi])⟩ rfl rfl (by first | (simp; done) | (simp; omega)) (by simp) (Nat.le_trans g5 (by decide)) (show (((([] : List MPoint) ++ ((l.drop 0).take ((Int.toNat at') - 0))) ++ [(MPoint.mk 2 (MSpan.mk 0 0) (MSpan.mk 0 0) (MSpan.mk heat heat) (MSpan.mk 0 0))]).length + ((l.drop (Int.toNat at')).take (l.length - (Int.toNat at'))).length) * 72 ≤ 140737488355328 by have := g5; omega) ?_
  clear S; intro v0 E a w S; have S := St.pickG S [2, 3, 5, 31, 32] [0] [0] (⟨[(2, iv (at')), (3, iv (limit)), (5, .own 0 0), (31, .sl 1002), (32, .gr 0)], ⟨[(0, .blk 25 [iv (first.flow.lo), iv (first.flow.hi), iv (first.warm.lo), iv (first.warm.hi)])], ((1002, ⟨((l.drop (Int.toNat at')).take (l.length - (Int.toNat at'))).length, 9, fun i => pZ (((l.drop (Int.toNat at')).take (l.length - (Int.toNat at'))).getD i default)⟩) :: ((1001, ⟨((l.drop 0).take ((Int.toNat at') - 0)).length, 9, fun i => pZ (((l.drop 0).take ((Int.toNat at') - 0)).getD i default)⟩) :: (wormtubref05_Fits_R l heat))), [(0, ⟨47, 9, (((([] : List MPoint) ++ ((l.drop 0).take ((Int.toNat at') - 0))) ++ [(MPoint.mk 2 (MSpan.mk 0 0) (MSpan.mk 0 0) (MSpan.mk heat heat) (MSpan.mk 0 0))]) ++ ((l.drop (Int.toNat at')).take (l.length - (Int.toNat at')))).length, (((([] : List MPoint) ++ ((l.drop 0).take ((Int.toNat at') - 0))) ++ [(MPoint.mk 2 (MSpan.mk 0 0) (MSpan.mk 0 0) (MSpan.mk heat heat) (MSpan.mk 0 0))]) ++ ((l.drop (Int.toNat at')).take (l.length - (Int.toNat at')))).flatMap (fun x => [.int .i64 x.kind, .int .i64 x.flow.lo, .int .i64 x.flow.hi, .int .i64 x.warm.lo, .int .i64 x.warm.hi, .int .i64 x.heat.lo, .int .i64 x.heat.hi, .int .i64 x.share.lo, .int .i64 x.share.hi])⟩)]⟩⟩) (by kernel_rfl)
  refine sym_runP lay_ok [] 5 1 [2, 3, 5, 11] [0] (⟨[(2, iv (at')), (3, iv (limit)), (5, .own 0 0), (11, .gr 0)], ⟨[(0, .blk 25 [iv (first.flow.lo), iv (first.flow.hi), iv (first.warm.lo), iv (first.warm.hi)])], ((1002, ⟨((l.drop (Int.toNat at')).take (l.length - (Int.toNat at'))).length, 9, fun i => pZ (((l.drop (Int.toNat at')).take (l.length - (Int.toNat at'))).getD i default)⟩) :: ((1001, ⟨((l.drop 0).take ((Int.toNat at') - 0)).length, 9, fun i => pZ (((l.drop 0).take ((Int.toNat at') - 0)).getD i default)⟩) :: (wormtubref05_Fits_R l heat))), [(0, ⟨47, 9, (((([] : List MPoint) ++ ((l.drop 0).take ((Int.toNat at') - 0))) ++ [(MPoint.mk 2 (MSpan.mk 0 0) (MSpan.mk 0 0) (MSpan.mk heat heat) (MSpan.mk 0 0))]) ++ ((l.drop (Int.toNat at')).take (l.length - (Int.toNat at')))).length, (((([] : List MPoint) ++ ((l.drop 0).take ((Int.toNat at') - 0))) ++ [(MPoint.mk 2 (MSpan.mk 0 0) (MSpan.mk 0 0) (MSpan.mk heat heat) (MSpan.mk 0 0))]) ++ ((l.drop (Int.toNat at')).take (l.length - (Int.toNat at')))).flatMap (fun x => [.int .i64 x.kind, .int .i64 x.flow.lo, .int .i64 x.flow.hi, .int .i64 x.warm.lo, .int .i64 x.warm.hi, .int .i64 x.heat.lo, .int .i64 x.heat.hi, .int .i64 x.share.lo, .int .i64 x.share.hi])⟩)]⟩⟩) [] S (by kernel_rfl) (by kernel_rfl) trivial ?_
  clear S; intro E a w S
  refine sym_done rfl ?_
  refine out_then_normal ?_
  have S := St.pickG S [2, 3, 5, 11] [0] [0] (⟨[(2, iv (at')), (3, iv (limit)), (5, .own 0 0), (11, .gr 0)], ⟨[(0, .blk 25 [iv (first.flow.lo), iv (first.flow.hi), iv (first.warm.lo), iv (first.warm.hi)])], ((1002, ⟨((l.drop (Int.toNat at')).take (l.length - (Int.toNat at'))).length, 9, fun i => pZ (((l.drop (Int.toNat at')).take (l.length - (Int.toNat at'))).getD i default)⟩) :: ((1001, ⟨((l.drop 0).take ((Int.toNat at') - 0)).length, 9, fun i => pZ (((l.drop 0).take ((Int.toNat at') - 0)).getD i default)⟩) :: (wormtubref05_Fits_R l heat))), [(0, ⟨47, 9, (((([] : List MPoint) ++ ((l.drop 0).take ((Int.toNat at') - 0))) ++ [(MPoint.mk 2 (MSpan.mk 0 0) (MSpan.mk 0 0) (MSpan.mk heat heat) (MSpan.mk 0 0))]) ++ ((l.drop (Int.toNat at')).take (l.length - (Int.toNat at')))).length, (((([] : List MPoint) ++ ((l.drop 0).take ((Int.toNat at') - 0))) ++ [(MPoint.mk 2 (MSpan.mk 0 0) (MSpan.mk 0 0) (MSpan.mk heat heat) (MSpan.mk 0 0))]) ++ ((l.drop (Int.toNat at')).take (l.length - (Int.toNat at')))).flatMap (fun x => [.int .i64 x.kind, .int .i64 x.flow.lo, .int .i64 x.flow.hi, .int .i64 x.warm.lo, .int .i64 x.warm.hi, .int .i64 x.heat.lo, .int .i64 x.heat.hi, .int .i64 x.share.lo, .int .i64 x.share.hi])⟩)]⟩⟩) (by kernel_rfl)
  obtain ⟨r1, e1, h⟩ := bind_some h
  refine sym_seq lay_ok mixed [(2, { g := 3, res := .tup [.ltr 3 0, iv (r1.2.1), iv (r1.2.2)], hx := some (SlicesAre 0 [⟨r1.1.length, 4, fun i => wZ (r1.1.getD i default)⟩]) })] [2, 3, 12, 14] [3] (⟨[(2, iv (at')), (3, iv (limit)), (12, .ltr 3 0), (14, iv (r1.2.2))], ⟨[(3, .held (SlicesAre 0 [⟨r1.1.length, 4, fun i => wZ (r1.1.getD i default)⟩]))], ((1002, ⟨((l.drop (Int.toNat at')).take (l.length - (Int.toNat at'))).length, 9, fun i => pZ (((l.drop (Int.toNat at')).take (l.length - (Int.toNat at'))).getD i default)⟩) :: ((1001, ⟨((l.drop 0).take ((Int.toNat at') - 0)).length, 9, fun i => pZ (((l.drop 0).take ((Int.toNat at') - 0)).getD i default)⟩) :: (wormtubref05_Fits_R l heat))), [(0, ⟨47, 9, (((([] : List MPoint) ++ ((l.drop 0).take ((Int.toNat at') - 0))) ++ [(MPoint.mk 2 (MSpan.mk 0 0) (MSpan.mk 0 0) (MSpan.mk heat heat) (MSpan.mk 0 0))]) ++ ((l.drop (Int.toNat at')).take (l.length - (Int.toNat at')))).length, (((([] : List MPoint) ++ ((l.drop 0).take ((Int.toNat at') - 0))) ++ [(MPoint.mk 2 (MSpan.mk 0 0) (MSpan.mk 0 0) (MSpan.mk heat heat) (MSpan.mk 0 0))]) ++ ((l.drop (Int.toNat at')).take (l.length - (Int.toNat at')))).flatMap (fun x => [.int .i64 x.kind, .int .i64 x.flow.lo, .int .i64 x.flow.hi, .int .i64 x.warm.lo, .int .i64 x.warm.hi, .int .i64 x.heat.lo, .int .i64 x.heat.hi, .int .i64 x.share.lo, .int .i64 x.share.hi])⟩)]⟩⟩) [.callx ⟨[], ((1002, ⟨((l.drop (Int.toNat at')).take (l.length - (Int.toNat at'))).length, 9, fun i => pZ (((l.drop (Int.toNat at')).take (l.length - (Int.toNat at'))).getD i default)⟩) :: ((1001, ⟨((l.drop 0).take ((Int.toNat at') - 0)).length, 9, fun i => pZ (((l.drop 0).take ((Int.toNat at') - 0)).getD i default)⟩) :: (wormtubref05_Fits_R l heat))), [(0, ⟨47, 9, (((([] : List MPoint) ++ ((l.drop 0).take ((Int.toNat at') - 0))) ++ [(MPoint.mk 2 (MSpan.mk 0 0) (MSpan.mk 0 0) (MSpan.mk heat heat) (MSpan.mk 0 0))]) ++ ((l.drop (Int.toNat at')).take (l.length - (Int.toNat at')))).length, (((([] : List MPoint) ++ ((l.drop 0).take ((Int.toNat at') - 0))) ++ [(MPoint.mk 2 (MSpan.mk 0 0) (MSpan.mk 0 0) (MSpan.mk heat heat) (MSpan.mk 0 0))]) ++ ((l.drop (Int.toNat at')).take (l.length - (Int.toNat at')))).flatMap (fun x => [.int .i64 x.kind, .int .i64 x.flow.lo, .int .i64 x.flow.hi, .int .i64 x.warm.lo, .int .i64 x.warm.hi, .int .i64 x.heat.lo, .int .i64 x.heat.hi, .int .i64 x.share.lo, .int .i64 x.share.hi])⟩)]⟩ 3 37 [.agg [iv (first.flow.lo), iv (first.flow.hi), iv (first.warm.lo), iv (first.warm.hi)], .gr 0] (.tup [.ltr 3 0, iv (r1.2.1), iv (r1.2.2)]) (SlicesAre 0 [⟨r1.1.length, 4, fun i => wZ (r1.1.getD i default)⟩])] S (by kernel_rfl) (by kernel_rfl) (by kernel_rfl) ⟨⟨enters_37, fun E W _ hm => by obtain ⟨A0, c0, q0, l0, s0⟩ := Mem.grSl hm (k := 0) rfl; simp only [SV.vals, SV.val, q0]; exact ((wormtubref05_flow_ok fuel (MWater.mk (MSpan.mk first.flow.lo first.flow.hi) (MSpan.mk first.warm.lo first.warm.hi)) (((([] : List MPoint) ++ ((l.drop 0).take ((Int.toNat at') - 0))) ++ [(MPoint.mk 2 (MSpan.mk 0 0) (MSpan.mk 0 0) (MSpan.mk heat heat) (MSpan.mk 0 0))]) ++ ((l.drop (Int.toNat at')).take (l.length - (Int.toNat at')))) W A0 c0 l0 (s0 _ (flat_get (fun x => [.int .i64 x.kind, .int .i64 x.flow.lo, .int .i64 x.flow.hi, .int .i64 x.warm.lo, .int .i64 x.warm.hi, .int .i64 x.heat.lo, .int .i64 x.heat.hi, .int .i64 x.share.lo, .int .i64 x.share.hi]) 9 (fun _ => rfl) (((([] : List MPoint) ++ ((l.drop 0).take ((Int.toNat at') - 0))) ++ [(MPoint.mk 2 (MSpan.mk 0 0) (MSpan.mk 0 0) (MSpan.mk heat heat) (MSpan.mk 0 0))]) ++ ((l.drop (Int.toNat at')).take (l.length - (Int.toNat at')))))) r1 e1).mono fun e w' hx => by obtain ⟨v, h1, h2, h3, h4⟩ := hx; exact ⟨v, h1, h2, h3, h4.mono fun _ _ h => .inl h⟩)⟩, trivial⟩ ?_
  clear S; intro E a w S
  obtain ⟨E, S⟩ := St.read 3 0 1003 ⟨r1.1.length, 4, fun i => wZ (r1.1.getD i default)⟩ (⟨[(2, iv (at')), (3, iv (limit)), (12, .sl 1003), (14, iv (r1.2.2))], ⟨[(3, .held (SlicesAre 0 [⟨r1.1.length, 4, fun i => wZ (r1.1.getD i default)⟩]))], ((1003, ⟨r1.1.length, 4, fun i => wZ (r1.1.getD i default)⟩) :: ((1002, ⟨((l.drop (Int.toNat at')).take (l.length - (Int.toNat at'))).length, 9, fun i => pZ (((l.drop (Int.toNat at')).take (l.length - (Int.toNat at'))).getD i default)⟩) :: ((1001, ⟨((l.drop 0).take ((Int.toNat at') - 0)).length, 9, fun i => pZ (((l.drop 0).take ((Int.toNat at') - 0)).getD i default)⟩) :: (wormtubref05_Fits_R l heat)))), [(0, ⟨47, 9, (((([] : List MPoint) ++ ((l.drop 0).take ((Int.toNat at') - 0))) ++ [(MPoint.mk 2 (MSpan.mk 0 0) (MSpan.mk 0 0) (MSpan.mk heat heat) (MSpan.mk 0 0))]) ++ ((l.drop (Int.toNat at')).take (l.length - (Int.toNat at')))).length, (((([] : List MPoint) ++ ((l.drop 0).take ((Int.toNat at') - 0))) ++ [(MPoint.mk 2 (MSpan.mk 0 0) (MSpan.mk 0 0) (MSpan.mk heat heat) (MSpan.mk 0 0))]) ++ ((l.drop (Int.toNat at')).take (l.length - (Int.toNat at')))).flatMap (fun x => [.int .i64 x.kind, .int .i64 x.flow.lo, .int .i64 x.flow.hi, .int .i64 x.warm.lo, .int .i64 x.warm.hi, .int .i64 x.heat.lo, .int .i64 x.heat.hi, .int .i64 x.share.lo, .int .i64 x.share.hi])⟩)]⟩⟩) rfl (fun v w h => h.1) (by intro _ h; cases h) (by kernel_rfl) (by kernel_rfl) S
  refine wp_seq ?_
  refine sym_seq lay_ok mixed [] [2, 3, 12, 41] [] (⟨[(2, iv (at')), (3, iv (limit)), (12, .sl 1003), (41, .v (.bool (r1.2.2 != 0)))], ⟨[], ((1003, ⟨r1.1.length, 4, fun i => wZ (r1.1.getD i default)⟩) :: ((1002, ⟨((l.drop (Int.toNat at')).take (l.length - (Int.toNat at'))).length, 9, fun i => pZ (((l.drop (Int.toNat at')).take (l.length - (Int.toNat at'))).getD i default)⟩) :: ((1001, ⟨((l.drop 0).take ((Int.toNat at') - 0)).length, 9, fun i => pZ (((l.drop 0).take ((Int.toNat at') - 0)).getD i default)⟩) :: (wormtubref05_Fits_R l heat)))), [(0, ⟨47, 9, (((([] : List MPoint) ++ ((l.drop 0).take ((Int.toNat at') - 0))) ++ [(MPoint.mk 2 (MSpan.mk 0 0) (MSpan.mk 0 0) (MSpan.mk heat heat) (MSpan.mk 0 0))]) ++ ((l.drop (Int.toNat at')).take (l.length - (Int.toNat at')))).length, (((([] : List MPoint) ++ ((l.drop 0).take ((Int.toNat at') - 0))) ++ [(MPoint.mk 2 (MSpan.mk 0 0) (MSpan.mk 0 0) (MSpan.mk heat heat) (MSpan.mk 0 0))]) ++ ((l.drop (Int.toNat at')).take (l.length - (Int.toNat at')))).flatMap (fun x => [.int .i64 x.kind, .int .i64 x.flow.lo, .int .i64 x.flow.hi, .int .i64 x.warm.lo, .int .i64 x.warm.hi, .int .i64 x.heat.lo, .int .i64 x.heat.hi, .int .i64 x.share.lo, .int .i64 x.share.hi])⟩)]⟩⟩) [] S (by kernel_rfl) (by kernel_rfl) (by kernel_rfl) trivial ?_
  clear S; intro E a w S
  refine sym_if_last (b := (r1.2.2 != 0)) S rfl (fun hb1 => ?_) (fun hb1 => ?_)
  · have h := bif_t hb1 h
    refine sym_seq lay_ok mixed [] [10] [] (⟨[(10, .v (.bool false))], ⟨[], ((1003, ⟨r1.1.length, 4, fun i => wZ (r1.1.getD i default)⟩) :: ((1002, ⟨((l.drop (Int.toNat at')).take (l.length - (Int.toNat at'))).length, 9, fun i => pZ (((l.drop (Int.toNat at')).take (l.length - (Int.toNat at'))).getD i default)⟩) :: ((1001, ⟨((l.drop 0).take ((Int.toNat at') - 0)).length, 9, fun i => pZ (((l.drop 0).take ((Int.toNat at') - 0)).getD i default)⟩) :: (wormtubref05_Fits_R l heat)))), [(0, ⟨47, 9, (((([] : List MPoint) ++ ((l.drop 0).take ((Int.toNat at') - 0))) ++ [(MPoint.mk 2 (MSpan.mk 0 0) (MSpan.mk 0 0) (MSpan.mk heat heat) (MSpan.mk 0 0))]) ++ ((l.drop (Int.toNat at')).take (l.length - (Int.toNat at')))).length, (((([] : List MPoint) ++ ((l.drop 0).take ((Int.toNat at') - 0))) ++ [(MPoint.mk 2 (MSpan.mk 0 0) (MSpan.mk 0 0) (MSpan.mk heat heat) (MSpan.mk 0 0))]) ++ ((l.drop (Int.toNat at')).take (l.length - (Int.toNat at')))).flatMap (fun x => [.int .i64 x.kind, .int .i64 x.flow.lo, .int .i64 x.flow.hi, .int .i64 x.warm.lo, .int .i64 x.warm.hi, .int .i64 x.heat.lo, .int .i64 x.heat.hi, .int .i64 x.share.lo, .int .i64 x.share.hi])⟩)]⟩⟩) [] S (by kernel_rfl) (by kernel_rfl) (by kernel_rfl) trivial ?_
    clear S; intro E a w S
    refine wp_ret ?_
    refine out_then_ret ?_
    have h := Option.some.inj h
    subst h
    exact sym_ret lay_ok [.v (.bool false)] (by kernel_rfl) rfl S ⟨rfl, S.below rfl⟩
  · have h := bif_f hb1 h
    refine wp_skip ?_
    refine out_then_normal ?_
    refine wp_seq ?_
    refine sym_seq lay_ok mixed [] [3, 12, 15] [] (⟨[(3, iv (limit)), (12, .sl 1003), (15, iv (at'))], ⟨[], ((1003, ⟨r1.1.length, 4, fun i => wZ (r1.1.getD i default)⟩) :: ((1002, ⟨((l.drop (Int.toNat at')).take (l.length - (Int.toNat at'))).length, 9, fun i => pZ (((l.drop (Int.toNat at')).take (l.length - (Int.toNat at'))).getD i default)⟩) :: ((1001, ⟨((l.drop 0).take ((Int.toNat at') - 0)).length, 9, fun i => pZ (((l.drop 0).take ((Int.toNat at') - 0)).getD i default)⟩) :: (wormtubref05_Fits_R l heat)))), [(0, ⟨47, 9, (((([] : List MPoint) ++ ((l.drop 0).take ((Int.toNat at') - 0))) ++ [(MPoint.mk 2 (MSpan.mk 0 0) (MSpan.mk 0 0) (MSpan.mk heat heat) (MSpan.mk 0 0))]) ++ ((l.drop (Int.toNat at')).take (l.length - (Int.toNat at')))).length, (((([] : List MPoint) ++ ((l.drop 0).take ((Int.toNat at') - 0))) ++ [(MPoint.mk 2 (MSpan.mk 0 0) (MSpan.mk 0 0) (MSpan.mk heat heat) (MSpan.mk 0 0))]) ++ ((l.drop (Int.toNat at')).take (l.length - (Int.toNat at')))).flatMap (fun x => [.int .i64 x.kind, .int .i64 x.flow.lo, .int .i64 x.flow.hi, .int .i64 x.warm.lo, .int .i64 x.warm.hi, .int .i64 x.heat.lo, .int .i64 x.heat.hi, .int .i64 x.share.lo, .int .i64 x.share.hi])⟩)]⟩⟩) [] S (by kernel_rfl) (by kernel_rfl) (by kernel_rfl) trivial ?_
    clear S; intro E a w S
    obtain ⟨lr1, e2, hp1⟩ := bind_some h
    clear h
    refine sym_block_last (G := fun a w => ∃ E, ∃ x1 : Unit, wormtubref05_Fits_k1 x1 = some res ∧ St ⟨W, noC, Go.Proofs.Try.f45.ntmps, [], allR, noρ, (envOf [(0, ⟨A0, l.length, c0, 9⟩)]).sl, (envOf [(0, ⟨A0, l.length, c0, 9⟩)]).x⟩ (⟨[], ⟨[], ((1003, ⟨r1.1.length, 4, fun i => wZ (r1.1.getD i default)⟩) :: ((1002, ⟨((l.drop (Int.toNat at')).take (l.length - (Int.toNat at'))).length, 9, fun i => pZ (((l.drop (Int.toNat at')).take (l.length - (Int.toNat at'))).getD i default)⟩) :: ((1001, ⟨((l.drop 0).take ((Int.toNat at') - 0)).length, 9, fun i => pZ (((l.drop 0).take ((Int.toNat at') - 0)).getD i default)⟩) :: (wormtubref05_Fits_R l heat)))), [(0, ⟨47, 9, (((([] : List MPoint) ++ ((l.drop 0).take ((Int.toNat at') - 0))) ++ [(MPoint.mk 2 (MSpan.mk 0 0) (MSpan.mk 0 0) (MSpan.mk heat heat) (MSpan.mk 0 0))]) ++ ((l.drop (Int.toNat at')).take (l.length - (Int.toNat at')))).length, (((([] : List MPoint) ++ ((l.drop 0).take ((Int.toNat at') - 0))) ++ [(MPoint.mk 2 (MSpan.mk 0 0) (MSpan.mk 0 0) (MSpan.mk heat heat) (MSpan.mk 0 0))]) ++ ((l.drop (Int.toNat at')).take (l.length - (Int.toNat at')))).flatMap (fun x => [.int .i64 x.kind, .int .i64 x.flow.lo, .int .i64 x.flow.hi, .int .i64 x.warm.lo, .int .i64 x.warm.hi, .int .i64 x.heat.lo, .int .i64 x.heat.hi, .int .i64 x.share.lo, .int .i64 x.share.hi])⟩)]⟩⟩) E a w) ?_ ?_
    · refine wp_loop_rounds fuel ?_
      refine sym_rounds (F := fun n b1 => wormtubref05_Fits_l1 limit r1 n b1 = some lr1) (H := fun b1 => ⟨[(3, iv (limit)), (12, .sl 1003), (15, iv (b1))], ⟨[], ((1003, ⟨r1.1.length, 4, fun i => wZ (r1.1.getD i default)⟩) :: ((1002, ⟨((l.drop (Int.toNat at')).take (l.length - (Int.toNat at'))).length, 9, fun i => pZ (((l.drop (Int.toNat at')).take (l.length - (Int.toNat at'))).getD i default)⟩) :: ((1001, ⟨((l.drop 0).take ((Int.toNat at') - 0)).length, 9, fun i => pZ (((l.drop 0).take ((Int.toNat at') - 0)).getD i default)⟩) :: (wormtubref05_Fits_R l heat)))), [(0, ⟨47, 9, (((([] : List MPoint) ++ ((l.drop 0).take ((Int.toNat at') - 0))) ++ [(MPoint.mk 2 (MSpan.mk 0 0) (MSpan.mk 0 0) (MSpan.mk heat heat) (MSpan.mk 0 0))]) ++ ((l.drop (Int.toNat at')).take (l.length - (Int.toNat at')))).length, (((([] : List MPoint) ++ ((l.drop 0).take ((Int.toNat at') - 0))) ++ [(MPoint.mk 2 (MSpan.mk 0 0) (MSpan.mk 0 0) (MSpan.mk heat heat) (MSpan.mk 0 0))]) ++ ((l.drop (Int.toNat at')).take (l.length - (Int.toNat at')))).flatMap (fun x => [.int .i64 x.kind, .int .i64 x.flow.lo, .int .i64 x.flow.hi, .int .i64 x.warm.lo, .int .i64 x.warm.hi, .int .i64 x.heat.lo, .int .i64 x.heat.hi, .int .i64 x.share.lo, .int .i64 x.share.hi])⟩)]⟩⟩) at' (fun b hb => by have hb : none = some lr1 := hb; cases hb) ?_ _ _ _ _ e2 (St.cast (P := Go.Proofs.Try.prog) [] [] [3, 12, 15] [] [1003, 1002, 1001, 0] _ [] (by kernel_rfl) trivial S)
      clear e2 S
      intro n b1 E a w h ih S
      rw [wormtubref05_Fits_l1] at h
      refine wp_seq ?_
      refine sym_seq lay_ok mixed [] [3, 12, 15, 46] [] (⟨[(3, iv (limit)), (12, .sl 1003), (15, iv (b1)), (46, .v (.bool (decide (b1 < ((r1.1.length : Nat) : Int)))))], ⟨[], ((1003, ⟨r1.1.length, 4, fun i => wZ (r1.1.getD i default)⟩) :: ((1002, ⟨((l.drop (Int.toNat at')).take (l.length - (Int.toNat at'))).length, 9, fun i => pZ (((l.drop (Int.toNat at')).take (l.length - (Int.toNat at'))).getD i default)⟩) :: ((1001, ⟨((l.drop 0).take ((Int.toNat at') - 0)).length, 9, fun i => pZ (((l.drop 0).take ((Int.toNat at') - 0)).getD i default)⟩) :: (wormtubref05_Fits_R l heat)))), [(0, ⟨47, 9, (((([] : List MPoint) ++ ((l.drop 0).take ((Int.toNat at') - 0))) ++ [(MPoint.mk 2 (MSpan.mk 0 0) (MSpan.mk 0 0) (MSpan.mk heat heat) (MSpan.mk 0 0))]) ++ ((l.drop (Int.toNat at')).take (l.length - (Int.toNat at')))).length, (((([] : List MPoint) ++ ((l.drop 0).take ((Int.toNat at') - 0))) ++ [(MPoint.mk 2 (MSpan.mk 0 0) (MSpan.mk 0 0) (MSpan.mk heat heat) (MSpan.mk 0 0))]) ++ ((l.drop (Int.toNat at')).take (l.length - (Int.toNat at')))).flatMap (fun x => [.int .i64 x.kind, .int .i64 x.flow.lo, .int .i64 x.flow.hi, .int .i64 x.warm.lo, .int .i64 x.warm.hi, .int .i64 x.heat.lo, .int .i64 x.heat.hi, .int .i64 x.share.lo, .int .i64 x.share.hi])⟩)]⟩⟩) [] S (by kernel_rfl) (by kernel_rfl) (by kernel_rfl) trivial ?_
      clear S; intro E a w S
      refine sym_if_last (b := decide (b1 < ((r1.1.length : Nat) : Int))) S rfl (fun hb2 => ?_) (fun hb2 => ?_)
      · have h := bif_t hb2 h
        refine wp_skip ?_
        refine out_then_normal ?_
        refine wp_seq ?_
        refine wp_block ?_
        obtain ⟨g6, h⟩ := grd_some h
        refine sym_seq lay_ok mixed [] [3, 12, 15, 56] [] (⟨[(3, iv (limit)), (12, .sl 1003), (15, iv (b1)), (56, .v (.bool (decide (limit < (((r1.1.getD (Int.toNat b1) default).warm).hi)))))], ⟨[], ((1003, ⟨r1.1.length, 4, fun i => wZ (r1.1.getD i default)⟩) :: ((1002, ⟨((l.drop (Int.toNat at')).take (l.length - (Int.toNat at'))).length, 9, fun i => pZ (((l.drop (Int.toNat at')).take (l.length - (Int.toNat at'))).getD i default)⟩) :: ((1001, ⟨((l.drop 0).take ((Int.toNat at') - 0)).length, 9, fun i => pZ (((l.drop 0).take ((Int.toNat at') - 0)).getD i default)⟩) :: (wormtubref05_Fits_R l heat)))), [(0, ⟨47, 9, (((([] : List MPoint) ++ ((l.drop 0).take ((Int.toNat at') - 0))) ++ [(MPoint.mk 2 (MSpan.mk 0 0) (MSpan.mk 0 0) (MSpan.mk heat heat) (MSpan.mk 0 0))]) ++ ((l.drop (Int.toNat at')).take (l.length - (Int.toNat at')))).length, (((([] : List MPoint) ++ ((l.drop 0).take ((Int.toNat at') - 0))) ++ [(MPoint.mk 2 (MSpan.mk 0 0) (MSpan.mk 0 0) (MSpan.mk heat heat) (MSpan.mk 0 0))]) ++ ((l.drop (Int.toNat at')).take (l.length - (Int.toNat at')))).flatMap (fun x => [.int .i64 x.kind, .int .i64 x.flow.lo, .int .i64 x.flow.hi, .int .i64 x.warm.lo, .int .i64 x.warm.hi, .int .i64 x.heat.lo, .int .i64 x.heat.hi, .int .i64 x.share.lo, .int .i64 x.share.hi])⟩)]⟩⟩) [.idx b1 r1.1.length, .idx b1 r1.1.length, .idx b1 r1.1.length, .idx b1 r1.1.length] S (by kernel_rfl) (by kernel_rfl) (by kernel_rfl) ⟨g6, g6, g6, g6, trivial⟩ ?_
        clear S; intro E a w S
        refine sym_if_last (b := decide (limit < (((r1.1.getD (Int.toNat b1) default).warm).hi))) S rfl (fun hb3 => ?_) (fun hb3 => ?_)
        · have h := bif_t hb3 h
          refine sym_seq lay_ok mixed [] [10] [] (⟨[(10, .v (.bool false))], ⟨[], ((1003, ⟨r1.1.length, 4, fun i => wZ (r1.1.getD i default)⟩) :: ((1002, ⟨((l.drop (Int.toNat at')).take (l.length - (Int.toNat at'))).length, 9, fun i => pZ (((l.drop (Int.toNat at')).take (l.length - (Int.toNat at'))).getD i default)⟩) :: ((1001, ⟨((l.drop 0).take ((Int.toNat at') - 0)).length, 9, fun i => pZ (((l.drop 0).take ((Int.toNat at') - 0)).getD i default)⟩) :: (wormtubref05_Fits_R l heat)))), [(0, ⟨47, 9, (((([] : List MPoint) ++ ((l.drop 0).take ((Int.toNat at') - 0))) ++ [(MPoint.mk 2 (MSpan.mk 0 0) (MSpan.mk 0 0) (MSpan.mk heat heat) (MSpan.mk 0 0))]) ++ ((l.drop (Int.toNat at')).take (l.length - (Int.toNat at')))).length, (((([] : List MPoint) ++ ((l.drop 0).take ((Int.toNat at') - 0))) ++ [(MPoint.mk 2 (MSpan.mk 0 0) (MSpan.mk 0 0) (MSpan.mk heat heat) (MSpan.mk 0 0))]) ++ ((l.drop (Int.toNat at')).take (l.length - (Int.toNat at')))).flatMap (fun x => [.int .i64 x.kind, .int .i64 x.flow.lo, .int .i64 x.flow.hi, .int .i64 x.warm.lo, .int .i64 x.warm.hi, .int .i64 x.heat.lo, .int .i64 x.heat.hi, .int .i64 x.share.lo, .int .i64 x.share.hi])⟩)]⟩⟩) [] S (by kernel_rfl) (by kernel_rfl) (by kernel_rfl) trivial ?_
          clear S; intro E a w S
          refine wp_ret ?_
          refine out_block_ret ?_
          refine out_then_ret ?_
          refine out_then_ret ?_
          refine out_block_ret ?_
          refine out_then_ret ?_
          refine out_then_ret ?_
          have hr := Option.some.inj h
          subst hr
          have hr := Option.some.inj hp1
          subst hr
          exact sym_ret lay_ok [.v (.bool false)] (by kernel_rfl) rfl S ⟨rfl, S.below rfl⟩
        · have h := bif_f hb3 h
          refine wp_skip ?_
          refine out_block_normal ?_
          refine out_then_normal ?_
          obtain ⟨g7, h⟩ := grd_some h
          refine sym_last lay_ok mixed [] [3, 12, 15] [] (⟨[(3, iv (limit)), (12, .sl 1003), (15, iv ((b1 + 1)))], ⟨[], ((1003, ⟨r1.1.length, 4, fun i => wZ (r1.1.getD i default)⟩) :: ((1002, ⟨((l.drop (Int.toNat at')).take (l.length - (Int.toNat at'))).length, 9, fun i => pZ (((l.drop (Int.toNat at')).take (l.length - (Int.toNat at'))).getD i default)⟩) :: ((1001, ⟨((l.drop 0).take ((Int.toNat at') - 0)).length, 9, fun i => pZ (((l.drop 0).take ((Int.toNat at') - 0)).getD i default)⟩) :: (wormtubref05_Fits_R l heat)))), [(0, ⟨47, 9, (((([] : List MPoint) ++ ((l.drop 0).take ((Int.toNat at') - 0))) ++ [(MPoint.mk 2 (MSpan.mk 0 0) (MSpan.mk 0 0) (MSpan.mk heat heat) (MSpan.mk 0 0))]) ++ ((l.drop (Int.toNat at')).take (l.length - (Int.toNat at')))).length, (((([] : List MPoint) ++ ((l.drop 0).take ((Int.toNat at') - 0))) ++ [(MPoint.mk 2 (MSpan.mk 0 0) (MSpan.mk 0 0) (MSpan.mk heat heat) (MSpan.mk 0 0))]) ++ ((l.drop (Int.toNat at')).take (l.length - (Int.toNat at')))).flatMap (fun x => [.int .i64 x.kind, .int .i64 x.flow.lo, .int .i64 x.flow.hi, .int .i64 x.warm.lo, .int .i64 x.warm.hi, .int .i64 x.heat.lo, .int .i64 x.heat.hi, .int .i64 x.share.lo, .int .i64 x.share.hi])⟩)]⟩⟩) [.rng .i64 (b1 + 1)] S (by kernel_rfl) (by kernel_rfl) (by kernel_rfl) ⟨rngI64 g7, trivial⟩ ?_
          clear S; intro E a w S
          refine out_then_normal ?_
          exact ih (b1 + 1) _ _ _ h (St.cast (P := Go.Proofs.Try.prog) [] [] [3, 12, 15] [] [1003, 1002, 1001, 0] _ [] (by kernel_rfl) trivial S)
      · have h := bif_f hb2 h
        refine wp_exit ?_
        refine out_then_exit ?_
        refine out_then_exit ?_
        refine out_block_here ?_
        refine out_then_normal ?_
        have hr := Option.some.inj h
        subst hr
        exact ⟨_, (), hp1, St.cast (P := Go.Proofs.Try.prog) [] [] [] [] [1003, 1002, 1001, 0] _ [] (by kernel_rfl) trivial S⟩
    clear e2 S
    rintro a w ⟨E, x1, h, S⟩
    rw [wormtubref05_Fits_k1] at h
    refine out_then_normal ?_
    refine sym_seq lay_ok mixed [] [10] [] (⟨[(10, .v (.bool true))], ⟨[], ((1003, ⟨r1.1.length, 4, fun i => wZ (r1.1.getD i default)⟩) :: ((1002, ⟨((l.drop (Int.toNat at')).take (l.length - (Int.toNat at'))).length, 9, fun i => pZ (((l.drop (Int.toNat at')).take (l.length - (Int.toNat at'))).getD i default)⟩) :: ((1001, ⟨((l.drop 0).take ((Int.toNat at') - 0)).length, 9, fun i => pZ (((l.drop 0).take ((Int.toNat at') - 0)).getD i default)⟩) :: (wormtubref05_Fits_R l heat)))), [(0, ⟨47, 9, (((([] : List MPoint) ++ ((l.drop 0).take ((Int.toNat at') - 0))) ++ [(MPoint.mk 2 (MSpan.mk 0 0) (MSpan.mk 0 0) (MSpan.mk heat heat) (MSpan.mk 0 0))]) ++ ((l.drop (Int.toNat at')).take (l.length - (Int.toNat at')))).length, (((([] : List MPoint) ++ ((l.drop 0).take ((Int.toNat at') - 0))) ++ [(MPoint.mk 2 (MSpan.mk 0 0) (MSpan.mk 0 0) (MSpan.mk heat heat) (MSpan.mk 0 0))]) ++ ((l.drop (Int.toNat at')).take (l.length - (Int.toNat at')))).flatMap (fun x => [.int .i64 x.kind, .int .i64 x.flow.lo, .int .i64 x.flow.hi, .int .i64 x.warm.lo, .int .i64 x.warm.hi, .int .i64 x.heat.lo, .int .i64 x.heat.hi, .int .i64 x.share.lo, .int .i64 x.share.hi])⟩)]⟩⟩) [] S (by kernel_rfl) (by kernel_rfl) (by kernel_rfl) trivial ?_
    clear S; intro E a w S
    refine wp_ret ?_
    have h := Option.some.inj h
    subst h
    exact sym_ret lay_ok [.v (.bool true)] (by kernel_rfl) rfl S ⟨rfl, S.below rfl⟩
def wormtubref05_Room_R (l : List MPoint) : List (Nat × Q) := [(0, ⟨l.length, 9, fun i => pZ (l.getD i default)⟩)]
def wormtubref05_Room_k1  (x1 : Int) : Option (Int × Int) :=
some (x1, 0)
def wormtubref05_Room_l1 (fuel : Nat) (first : MWater) (l : List MPoint) (at' : Int) (limit : Int) : Nat → (Int × Int) → Option (Lp Int (Int × Int))
  | 0, _ => none
  | n + 1, b1 =>
    (bif decide (b1.1 < b1.2) then
    (grd (InI64 (b1.1 + b1.2) ∧ InI64 ((b1.1 + b1.2) + 1) ∧ InI64 (((b1.1 + b1.2) + 1).tdiv 2)) <|
    (wormtubref05_Fits fuel (MWater.mk (MSpan.mk first.flow.lo first.flow.hi) (MSpan.mk first.warm.lo first.warm.hi)) l at' limit (((b1.1 + b1.2) + 1).tdiv 2)).bind fun (r6 : Bool) =>
    (bif r6 then
    (wormtubref05_Room_l1 fuel first l at' limit n ((((b1.1 + b1.2) + 1).tdiv 2), b1.2))
    else
    (grd (InI64 ((((b1.1 + b1.2) + 1).tdiv 2) - 1)) <|
    wormtubref05_Room_l1 fuel first l at' limit n (b1.1, ((((b1.1 + b1.2) + 1).tdiv 2) - 1)))))
    else
    (some (Lp.done b1.1)))
def wormtubref05_Room (fuel : Nat) (first : MWater) (l : List MPoint) (at' : Int) (limit : Int) : Option (Int × Int) :=
(wormtubref05_Water (MWater.mk (MSpan.mk first.flow.lo first.flow.hi) (MSpan.mk first.warm.lo first.warm.hi))).bind fun (r1 : Bool) =>
(bif (!r1) then
(some (0, 1))
else
((wormtubref05_in limit 0 100000).bind fun (r2 : Bool) =>
((bif (!(!r2)) then wormtubref05_in at' 0 ((l.length : Nat) : Int) else some default)).bind fun (r3 : Bool) =>
(bif ((!r2) || (!r3)) then
(some (0, 2))
else
((wormtubref05_Flow fuel (MWater.mk (MSpan.mk first.flow.lo first.flow.hi) (MSpan.mk first.warm.lo first.warm.hi)) l).bind fun (r4 : (List MWater × Int × Int)) =>
(bif (r4.2.2 != 0) then
(some (0, r4.2.2))
else
((wormtubref05_Fits fuel (MWater.mk (MSpan.mk first.flow.lo first.flow.hi) (MSpan.mk first.warm.lo first.warm.hi)) l at' limit 0).bind fun (r5 : Bool) =>
(bif (!r5) then
(some (0, 11))
else
((wormtubref05_Room_l1 fuel first l at' limit fuel (0, 1099511627776)).bind fun lr1 => lr1.go fun x1 => wormtubref05_Room_k1 x1))))))))
set_option maxRecDepth 100000 in
set_option maxHeartbeats 4000000 in
theorem wormtubref05_Room_ok (fuel : Nat) (first : MWater) (l : List MPoint) (at' : Int) (limit : Int) (W : World) (A0 : Option Addr) (c0 : Nat) (h0 : l.length ≤ c0) (s0 : SlAt W A0 l.length 9 fun i => pZ (l.getD i default)) (res : Int × Int) (h : wormtubref05_Room fuel first l at' limit = some res) :
    Calls Go.Proofs.Try.prog 20 #[.agg #[.int .i64 first.flow.lo, .int .i64 first.flow.hi, .int .i64 first.warm.lo, .int .i64 first.warm.hi], .slice A0 l.length c0, .int .i64 at', .int .i64 limit] W fun e w' => e = .returned (.tuple #[.int .i64 res.1, .int .i64 res.2]) ∧ Below W.heap.size W w' := by
  refine sym_call (f := 20) (fn := Go.Proofs.Try.f20) (c := Go.Proofs.Try.f20.body.get rfl) Go.Proofs.Try.func20 rfl [.agg [iv (first.flow.lo), iv (first.flow.hi), iv (first.warm.lo), iv (first.warm.hi)], .sl 0, iv (at'), iv (limit)] (wormtubref05_Room_R l) [] (envOf [(0, ⟨A0, l.length, c0, 9⟩)]) allR (fun _ _ => rfl) (by kernel_rfl) (envOf_one trivial) ⟨s0.rd h0, trivial⟩ (AllRR.all _ _) trivial fun E a w S => ?_
  rw [wormtubref05_Room] at h
  refine sym_seq lay_ok mixed [(0, { g := 0 })] [1, 2, 3, 4] [0] (⟨[(1, .sl 0), (2, iv (at')), (3, iv (limit)), (4, .own 0 0)], ⟨[(0, .blk 25 [iv (first.flow.lo), iv (first.flow.hi), iv (first.warm.lo), iv (first.warm.hi)])], (wormtubref05_Room_R l), []⟩⟩) [] S (by kernel_rfl) (by kernel_rfl) (by kernel_rfl) trivial ?_
  clear S; intro E a w S
  refine wp_seq ?_
  obtain ⟨r1, e1, h⟩ := bind_some h
  refine sym_seq lay_ok mixed [(1, { res := .v (.bool r1) })] [1, 2, 3, 4, 18] [0] (⟨[(1, .sl 0), (2, iv (at')), (3, iv (limit)), (4, .own 0 0), (18, .v (.bool (!r1)))], ⟨[(0, .blk 25 [iv (first.flow.lo), iv (first.flow.hi), iv (first.warm.lo), iv (first.warm.hi)])], (wormtubref05_Room_R l), []⟩⟩) [.call ⟨[], (wormtubref05_Room_R l), []⟩ 23 [.agg [iv (first.flow.lo), iv (first.flow.hi), iv (first.warm.lo), iv (first.warm.hi)]] (.v (.bool r1))] S (by kernel_rfl) (by kernel_rfl) (by kernel_rfl) ⟨⟨enters_23, fun _ W _ hm => wormtubref05_Water_ok (MWater.mk (MSpan.mk first.flow.lo first.flow.hi) (MSpan.mk first.warm.lo first.warm.hi)) W r1 e1⟩, trivial⟩ ?_
  clear S; intro E a w S
  refine sym_if_last (b := (!r1)) S rfl (fun hb1 => ?_) (fun hb1 => ?_)
  · have h := bif_t hb1 h
    refine sym_seq lay_ok mixed [] [8, 9] [] (⟨[(8, iv (0)), (9, iv (1))], ⟨[], (wormtubref05_Room_R l), []⟩⟩) [] S (by kernel_rfl) (by kernel_rfl) (by kernel_rfl) trivial ?_
    clear S; intro E a w S
    refine wp_ret ?_
    refine out_then_ret ?_
    have h := Option.some.inj h
    subst h
    exact sym_ret lay_ok [iv (0), iv (1)] (by kernel_rfl) rfl S ⟨rfl, S.below rfl⟩
  · have h := bif_f hb1 h
    refine wp_skip ?_
    refine out_then_normal ?_
    refine wp_seq ?_
    obtain ⟨r2, e2, h⟩ := bind_some h
    obtain ⟨r3, e3, h⟩ := bind_some h
    refine sym_seq lay_ok mixed [(1, { res := .v (.bool r2) }), (4, { og := true }), (5, { og := true }), (6, { og := true }), (7, { og := true, res := .v (.bool r3) }), (8, { og := true }), (9, { pk := true })] [1, 2, 3, 4, 28] [0] (⟨[(1, .sl 0), (2, iv (at')), (3, iv (limit)), (4, .own 0 0), (28, .v (.bool ((!r2) || (!r3))))], ⟨[(0, .blk 25 [iv (first.flow.lo), iv (first.flow.hi), iv (first.warm.lo), iv (first.warm.hi)])], (wormtubref05_Room_R l), []⟩⟩) [.call ⟨[], (wormtubref05_Room_R l), []⟩ 39 [iv (limit), iv (0), iv (100000)] (.v (.bool r2)), .imp (!(!r2)) (!(!r2)), .imp (!(!r2)) (!(!r2)), .imp (!(!r2)) (!(!r2)), .when (!(!r2)) (.call ⟨[], (wormtubref05_Room_R l), []⟩ 39 [iv (at'), iv (0), iv (((l.length : Nat) : Int))] (.v (.bool r3))), .imp (!(!r2)) (!(!r2)), .imp (!(!r2)) (!(!r2))] S (by kernel_rfl) (by kernel_rfl) (by kernel_rfl) ⟨⟨enters_39, fun _ W _ hm => wormtubref05_in_ok limit 0 100000 W r2 e2⟩, fun h => h, fun h => h, fun h => h, fun hW => ⟨enters_39, fun _ W _ hm => wormtubref05_in_ok at' 0 ((l.length : Nat) : Int) W r3 (bif_t hW e3)⟩, fun h => h, fun h => h, trivial⟩ ?_
    clear S; intro E a w S
    refine sym_if_last (b := ((!r2) || (!r3))) S rfl (fun hb2 => ?_) (fun hb2 => ?_)
    · have h := bif_t hb2 h
      refine sym_seq lay_ok mixed [] [8, 9] [] (⟨[(8, iv (0)), (9, iv (2))], ⟨[], (wormtubref05_Room_R l), []⟩⟩) [] S (by kernel_rfl) (by kernel_rfl) (by kernel_rfl) trivial ?_
      clear S; intro E a w S
      refine wp_ret ?_
      refine out_then_ret ?_
      have h := Option.some.inj h
      subst h
      exact sym_ret lay_ok [iv (0), iv (2)] (by kernel_rfl) rfl S ⟨rfl, S.below rfl⟩
    · have h := bif_f hb2 h
      refine wp_skip ?_
      refine out_then_normal ?_
      obtain ⟨r4, e4, h⟩ := bind_some h
      refine sym_seq lay_ok mixed [(2, { g := 1, res := .tup [.ltr 1 0, iv (r4.2.1), iv (r4.2.2)], hx := some (SlicesAre 0 [⟨r4.1.length, 4, fun i => wZ (r4.1.getD i default)⟩]) })] [1, 2, 3, 4, 12] [0] (⟨[(1, .sl 0), (2, iv (at')), (3, iv (limit)), (4, .own 0 0), (12, iv (r4.2.2))], ⟨[(0, .blk 25 [iv (first.flow.lo), iv (first.flow.hi), iv (first.warm.lo), iv (first.warm.hi)])], (wormtubref05_Room_R l), []⟩⟩) [.callx ⟨[], (wormtubref05_Room_R l), []⟩ 1 14 [.agg [iv (first.flow.lo), iv (first.flow.hi), iv (first.warm.lo), iv (first.warm.hi)], .sl 0] (.tup [.ltr 1 0, iv (r4.2.1), iv (r4.2.2)]) (SlicesAre 0 [⟨r4.1.length, 4, fun i => wZ (r4.1.getD i default)⟩])] S (by kernel_rfl) (by kernel_rfl) (by kernel_rfl) ⟨⟨enters_14, fun E W _ hm => by obtain ⟨A0, c0, q0, l0, s0, _⟩ := Mem.sl hm (s := 0) rfl; simp only [SV.vals, SV.val, q0]; exact ((wormtubref05_Flow_ok fuel (MWater.mk (MSpan.mk first.flow.lo first.flow.hi) (MSpan.mk first.warm.lo first.warm.hi)) l W A0 c0 l0 s0 r4 e4).mono fun e w' hx => by obtain ⟨v, h1, h2, h3, h4⟩ := hx; exact ⟨v, h1, h2, h3, h4.mono fun _ _ h => .inl h⟩)⟩, trivial⟩ ?_
      clear S; intro E a w S
      refine wp_seq ?_
      refine sym_seq lay_ok mixed [] [1, 2, 3, 4, 12, 37] [0] (⟨[(1, .sl 0), (2, iv (at')), (3, iv (limit)), (4, .own 0 0), (12, iv (r4.2.2)), (37, .v (.bool (r4.2.2 != 0)))], ⟨[(0, .blk 25 [iv (first.flow.lo), iv (first.flow.hi), iv (first.warm.lo), iv (first.warm.hi)])], (wormtubref05_Room_R l), []⟩⟩) [] S (by kernel_rfl) (by kernel_rfl) (by kernel_rfl) trivial ?_
      clear S; intro E a w S
      refine sym_if_last (b := (r4.2.2 != 0)) S rfl (fun hb3 => ?_) (fun hb3 => ?_)
      · have h := bif_t hb3 h
        refine sym_seq lay_ok mixed [] [8, 9] [] (⟨[(8, iv (0)), (9, iv (r4.2.2))], ⟨[], (wormtubref05_Room_R l), []⟩⟩) [] S (by kernel_rfl) (by kernel_rfl) (by kernel_rfl) trivial ?_
        clear S; intro E a w S
        refine wp_ret ?_
        refine out_then_ret ?_
        have h := Option.some.inj h
        subst h
        exact sym_ret lay_ok [iv (0), iv (r4.2.2)] (by kernel_rfl) rfl S ⟨rfl, S.below rfl⟩
      · have h := bif_f hb3 h
        refine wp_skip ?_
        refine out_then_normal ?_
        refine wp_seq ?_
        obtain ⟨r5, e5, h⟩ := bind_some h
        refine sym_seq lay_ok mixed [(4, { res := .v (.bool r5) })] [1, 2, 3, 4, 44] [0] (⟨[(1, .sl 0), (2, iv (at')), (3, iv (limit)), (4, .own 0 0), (44, .v (.bool (!r5)))], ⟨[(0, .blk 25 [iv (first.flow.lo), iv (first.flow.hi), iv (first.warm.lo), iv (first.warm.hi)])], (wormtubref05_Room_R l), []⟩⟩) [.call ⟨[], (wormtubref05_Room_R l), []⟩ 45 [.agg [iv (first.flow.lo), iv (first.flow.hi), iv (first.warm.lo), iv (first.warm.hi)], .sl 0, iv (at'), iv (limit), iv (0)] (.v (.bool r5))] S (by kernel_rfl) (by kernel_rfl) (by kernel_rfl) ⟨⟨enters_45, fun E W _ hm => by obtain ⟨A0, c0, q0, l0, s0, _⟩ := Mem.sl hm (s := 0) rfl; simp only [SV.vals, SV.val, q0]; exact wormtubref05_Fits_ok fuel (MWater.mk (MSpan.mk first.flow.lo first.flow.hi) (MSpan.mk first.warm.lo first.warm.hi)) l at' limit 0 W A0 c0 l0 s0 r5 e5⟩, trivial⟩ ?_
        clear S; intro E a w S
        refine sym_if_last (b := (!r5)) S rfl (fun hb4 => ?_) (fun hb4 => ?_)
        · have h := bif_t hb4 h
          refine sym_seq lay_ok mixed [] [8, 9] [] (⟨[(8, iv (0)), (9, iv (11))], ⟨[], (wormtubref05_Room_R l), []⟩⟩) [] S (by kernel_rfl) (by kernel_rfl) (by kernel_rfl) trivial ?_
          clear S; intro E a w S
          refine wp_ret ?_
          refine out_then_ret ?_
          have h := Option.some.inj h
          subst h
          exact sym_ret lay_ok [iv (0), iv (11)] (by kernel_rfl) rfl S ⟨rfl, S.below rfl⟩
        · have h := bif_f hb4 h
          refine wp_skip ?_
          refine out_then_normal ?_
          refine sym_seq lay_ok mixed [] [1, 2, 3, 4, 13, 14] [0] (⟨[(1, .sl 0), (2, iv (at')), (3, iv (limit)), (4, .own 0 0), (13, iv (0)), (14, iv (1099511627776))], ⟨[(0, .blk 25 [iv (first.flow.lo), iv (first.flow.hi), iv (first.warm.lo), iv (first.warm.hi)])], (wormtubref05_Room_R l), []⟩⟩) [] S (by kernel_rfl) (by kernel_rfl) (by kernel_rfl) trivial ?_
          clear S; intro E a w S
          obtain ⟨lr1, e6, hp1⟩ := bind_some h
          clear h
          refine sym_block_meet (G := fun a w => ∃ E, ∃ x1 : Int, wormtubref05_Room_k1 x1 = some res ∧ St ⟨W, noC, Go.Proofs.Try.f20.ntmps, [], allR, noρ, (envOf [(0, ⟨A0, l.length, c0, 9⟩)]).sl, (envOf [(0, ⟨A0, l.length, c0, 9⟩)]).x⟩ (⟨[(13, iv (x1))], ⟨[], (wormtubref05_Room_R l), []⟩⟩) E a w) ?_ ?_
          · refine wp_loop_rounds fuel ?_
            refine sym_rounds (F := fun n b1 => wormtubref05_Room_l1 fuel first l at' limit n b1 = some lr1) (H := fun b1 => ⟨[(1, .sl 0), (2, iv (at')), (3, iv (limit)), (4, .own 0 0), (13, iv (b1.1)), (14, iv (b1.2))], ⟨[(0, .blk 25 [iv (first.flow.lo), iv (first.flow.hi), iv (first.warm.lo), iv (first.warm.hi)])], (wormtubref05_Room_R l), []⟩⟩) (0, 1099511627776) (fun b hb => by have hb : none = some lr1 := hb; cases hb) ?_ _ _ _ _ e6 (St.cast (P := Go.Proofs.Try.prog) [] [] [1, 2, 3, 4, 13, 14] [0] [0] _ [] (by kernel_rfl) trivial S)
            clear e6 S
            intro n b1 E a w h ih S
            rw [wormtubref05_Room_l1] at h
            refine wp_seq ?_
            refine sym_seq lay_ok mixed [] [1, 2, 3, 4, 13, 14, 47] [0] (⟨[(1, .sl 0), (2, iv (at')), (3, iv (limit)), (4, .own 0 0), (13, iv (b1.1)), (14, iv (b1.2)), (47, .v (.bool (decide (b1.1 < b1.2))))], ⟨[(0, .blk 25 [iv (first.flow.lo), iv (first.flow.hi), iv (first.warm.lo), iv (first.warm.hi)])], (wormtubref05_Room_R l), []⟩⟩) [] S (by kernel_rfl) (by kernel_rfl) (by kernel_rfl) trivial ?_
            clear S; intro E a w S
            refine sym_if_last (b := decide (b1.1 < b1.2)) S rfl (fun hb5 => ?_) (fun hb5 => ?_)
            · have h := bif_t hb5 h
              refine wp_skip ?_
              refine out_then_normal ?_
              refine wp_block ?_
              obtain ⟨⟨g1, g2, g3⟩, h⟩ := grd_some h
              refine sym_seq lay_ok mixed [] [1, 2, 3, 4, 13, 14, 15] [0] (⟨[(1, .sl 0), (2, iv (at')), (3, iv (limit)), (4, .own 0 0), (13, iv (b1.1)), (14, iv (b1.2)), (15, iv ((((b1.1 + b1.2) + 1).tdiv 2)))], ⟨[(0, .blk 25 [iv (first.flow.lo), iv (first.flow.hi), iv (first.warm.lo), iv (first.warm.hi)])], (wormtubref05_Room_R l), []⟩⟩) [.rng .i64 (b1.1 + b1.2), .rng .i64 ((b1.1 + b1.2) + 1), .nz 2, .rng .i64 (((b1.1 + b1.2) + 1).tdiv 2)] S (by kernel_rfl) (by kernel_rfl) (by kernel_rfl) ⟨rngI64 g1, rngI64 g2, (by decide : ¬ (2 : Int) = 0), rngI64 g3, trivial⟩ ?_
              clear S; intro E a w S
              obtain ⟨r6, e7, h⟩ := bind_some h
              refine sym_seq lay_ok mixed [(5, { res := .v (.bool r6) })] [1, 2, 3, 4, 13, 14, 15, 58] [0] (⟨[(1, .sl 0), (2, iv (at')), (3, iv (limit)), (4, .own 0 0), (13, iv (b1.1)), (14, iv (b1.2)), (15, iv ((((b1.1 + b1.2) + 1).tdiv 2))), (58, .v (.bool r6))], ⟨[(0, .blk 25 [iv (first.flow.lo), iv (first.flow.hi), iv (first.warm.lo), iv (first.warm.hi)])], (wormtubref05_Room_R l), []⟩⟩) [.call ⟨[], (wormtubref05_Room_R l), []⟩ 45 [.agg [iv (first.flow.lo), iv (first.flow.hi), iv (first.warm.lo), iv (first.warm.hi)], .sl 0, iv (at'), iv (limit), iv ((((b1.1 + b1.2) + 1).tdiv 2))] (.v (.bool r6))] S (by kernel_rfl) (by kernel_rfl) (by kernel_rfl) ⟨⟨enters_45, fun E W _ hm => by obtain ⟨A0, c0, q0, l0, s0, _⟩ := Mem.sl hm (s := 0) rfl; simp only [SV.vals, SV.val, q0]; exact wormtubref05_Fits_ok fuel (MWater.mk (MSpan.mk first.flow.lo first.flow.hi) (MSpan.mk first.warm.lo first.warm.hi)) l at' limit (((b1.1 + b1.2) + 1).tdiv 2) W A0 c0 l0 s0 r6 e7⟩, trivial⟩ ?_
              clear S; intro E a w S
              refine sym_if_last (b := r6) S rfl (fun hb6 => ?_) (fun hb6 => ?_)
              · have h := bif_t hb6 h
                refine sym_last lay_ok mixed [] [1, 2, 3, 4, 13, 14] [0] (⟨[(1, .sl 0), (2, iv (at')), (3, iv (limit)), (4, .own 0 0), (13, iv ((((b1.1 + b1.2) + 1).tdiv 2))), (14, iv (b1.2))], ⟨[(0, .blk 25 [iv (first.flow.lo), iv (first.flow.hi), iv (first.warm.lo), iv (first.warm.hi)])], (wormtubref05_Room_R l), []⟩⟩) [] S (by kernel_rfl) (by kernel_rfl) (by kernel_rfl) trivial ?_
                clear S; intro E a w S
                refine out_block_normal ?_
                refine out_then_normal ?_
                exact ih ((((b1.1 + b1.2) + 1).tdiv 2), b1.2) _ _ _ h (St.cast (P := Go.Proofs.Try.prog) [] [] [1, 2, 3, 4, 13, 14] [0] [0] _ [] (by kernel_rfl) trivial S)
              · have h := bif_f hb6 h
                obtain ⟨g4, h⟩ := grd_some h
                refine sym_last lay_ok mixed [] [1, 2, 3, 4, 13, 14] [0] (⟨[(1, .sl 0), (2, iv (at')), (3, iv (limit)), (4, .own 0 0), (13, iv (b1.1)), (14, iv (((((b1.1 + b1.2) + 1).tdiv 2) - 1)))], ⟨[(0, .blk 25 [iv (first.flow.lo), iv (first.flow.hi), iv (first.warm.lo), iv (first.warm.hi)])], (wormtubref05_Room_R l), []⟩⟩) [.rng .i64 ((((b1.1 + b1.2) + 1).tdiv 2) - 1)] S (by kernel_rfl) (by kernel_rfl) (by kernel_rfl) ⟨rngI64 g4, trivial⟩ ?_
                clear S; intro E a w S
                refine out_block_normal ?_
                refine out_then_normal ?_
                exact ih (b1.1, ((((b1.1 + b1.2) + 1).tdiv 2) - 1)) _ _ _ h (St.cast (P := Go.Proofs.Try.prog) [] [] [1, 2, 3, 4, 13, 14] [0] [0] _ [] (by kernel_rfl) trivial S)
            · have h := bif_f hb5 h
              refine wp_exit ?_
              refine out_then_exit ?_
              refine out_then_exit ?_
              refine out_block_here ?_
              refine out_then_normal ?_
              have hr := Option.some.inj h
              subst hr
              exact ⟨_, b1.1, hp1, St.cast (P := Go.Proofs.Try.prog) [] [] [13] [] [0] _ [] (by kernel_rfl) trivial S⟩
          clear e6 S
          rintro a w ⟨E, x1, h, S⟩
          rw [wormtubref05_Room_k1] at h
          refine sym_seq lay_ok mixed [] [8, 9] [] (⟨[(8, iv (x1)), (9, iv (0))], ⟨[], (wormtubref05_Room_R l), []⟩⟩) [] S (by kernel_rfl) (by kernel_rfl) (by kernel_rfl) trivial ?_
          clear S; intro E a w S
          refine wp_ret ?_
          have h := Option.some.inj h
          subst h
          exact sym_ret lay_ok [iv (x1), iv (0)] (by kernel_rfl) rfl S ⟨rfl, S.below rfl⟩
def wormtublaw05_StreamRooms_R (l : List MPoint) : List (Nat × Q) := [(0, ⟨l.length, 9, fun i => pZ (l.getD i default)⟩)]
def wormtublaw05_StreamRooms (fuel : Nat) (first : MWater) (l : List MPoint) (at' : Int) (limit : Int) : Option Bool :=
(wormtublaw05_long l).bind fun (r1 : Bool) =>
(bif r1 then
((wormtublaw05_awake).bind fun (r2 : Bool) =>
some r2)
else
((stream_Room fuel (MWater.mk (MSpan.mk first.flow.lo first.flow.hi) (MSpan.mk first.warm.lo first.warm.hi)) l at' limit).bind fun (r3 : (Int × Int)) =>
(wormtubref05_Room fuel (MWater.mk (MSpan.mk first.flow.lo first.flow.hi) (MSpan.mk first.warm.lo first.warm.hi)) l at' limit).bind fun (r4 : (Int × Int)) =>
((bif ((r3.1 == r4.1) && (r3.2 == r4.2)) then wormtublaw05_awake else some default)).bind fun (r5 : Bool) =>
some (((r3.1 == r4.1) && (r3.2 == r4.2)) && r5)))
set_option maxRecDepth 100000 in
set_option maxHeartbeats 4000000 in
theorem wormtublaw05_StreamRooms_ok (fuel : Nat) (first : MWater) (l : List MPoint) (at' : Int) (limit : Int) (W : World) (A0 : Option Addr) (c0 : Nat) (h0 : l.length ≤ c0) (s0 : SlAt W A0 l.length 9 fun i => pZ (l.getD i default)) (res : Bool) (h : wormtublaw05_StreamRooms fuel first l at' limit = some res) :
    Calls Go.Proofs.Try.prog 4 #[.agg #[.int .i64 first.flow.lo, .int .i64 first.flow.hi, .int .i64 first.warm.lo, .int .i64 first.warm.hi], .slice A0 l.length c0, .int .i64 at', .int .i64 limit] W fun e w' => e = .returned (.bool res) ∧ Below W.heap.size W w' := by
  refine sym_call (f := 4) (fn := Go.Proofs.Try.f4) (c := Go.Proofs.Try.f4.body.get rfl) Go.Proofs.Try.func4 rfl [.agg [iv (first.flow.lo), iv (first.flow.hi), iv (first.warm.lo), iv (first.warm.hi)], .sl 0, iv (at'), iv (limit)] (wormtublaw05_StreamRooms_R l) [] (envOf [(0, ⟨A0, l.length, c0, 9⟩)]) allR (fun _ _ => rfl) (by kernel_rfl) (envOf_one trivial) ⟨s0.rd h0, trivial⟩ (AllRR.all _ _) trivial fun E a w S => ?_
  rw [wormtublaw05_StreamRooms] at h
  refine sym_seq lay_ok mixed [(0, { g := 0 })] [1, 2, 3, 4] [0] (⟨[(1, .sl 0), (2, iv (at')), (3, iv (limit)), (4, .own 0 0)], ⟨[(0, .blk 25 [iv (first.flow.lo), iv (first.flow.hi), iv (first.warm.lo), iv (first.warm.hi)])], (wormtublaw05_StreamRooms_R l), []⟩⟩) [] S (by kernel_rfl) (by kernel_rfl) (by kernel_rfl) trivial ?_
  clear S; intro E a w S
  refine wp_seq ?_
  obtain ⟨r1, e1, h⟩ := bind_some h
  refine sym_seq lay_ok mixed [(1, { res := .v (.bool r1) })] [1, 2, 3, 4, 14] [0] (⟨[(1, .sl 0), (2, iv (at')), (3, iv (limit)), (4, .own 0 0), (14, .v (.bool r1))], ⟨[(0, .blk 25 [iv (first.flow.lo), iv (first.flow.hi), iv (first.warm.lo), iv (first.warm.hi)])], (wormtublaw05_StreamRooms_R l), []⟩⟩) [.call ⟨[], (wormtublaw05_StreamRooms_R l), []⟩ 11 [.sl 0] (.v (.bool r1))] S (by kernel_rfl) (by kernel_rfl) (by kernel_rfl) ⟨⟨enters_11, fun E W _ hm => by obtain ⟨A0, c0, q0, l0, s0, _⟩ := Mem.sl hm (s := 0) rfl; simp only [SV.vals, SV.val, q0]; exact wormtublaw05_long_ok l W A0 c0 l0 s0 r1 e1⟩, trivial⟩ ?_
  clear S; intro E a w S
  refine sym_if_last (b := r1) S rfl (fun hb1 => ?_) (fun hb1 => ?_)
  · have h := bif_t hb1 h
    obtain ⟨r2, e2, h⟩ := bind_some h
    refine sym_seq lay_ok mixed [(0, { res := .v (.bool r2) })] [8] [] (⟨[(8, .v (.bool r2))], ⟨[], (wormtublaw05_StreamRooms_R l), []⟩⟩) [.call ⟨[], (wormtublaw05_StreamRooms_R l), []⟩ 12 [] (.v (.bool r2))] S (by kernel_rfl) (by kernel_rfl) (by kernel_rfl) ⟨⟨enters_12, fun _ W _ hm => wormtublaw05_awake_ok  W r2 e2⟩, trivial⟩ ?_
    clear S; intro E a w S
    refine wp_ret ?_
    refine out_then_ret ?_
    have h := Option.some.inj h
    subst h
    exact sym_ret lay_ok [.v (.bool r2)] (by kernel_rfl) rfl S ⟨rfl, S.below rfl⟩
  · have h := bif_f hb1 h
    refine wp_skip ?_
    refine out_then_normal ?_
    obtain ⟨r3, e3, h⟩ := bind_some h
    refine sym_seq lay_ok mixed [(4, { res := .tup [iv (r3.1), iv (r3.2)] })] [1, 2, 3, 4, 9, 10] [0] (⟨[(1, .sl 0), (2, iv (at')), (3, iv (limit)), (4, .own 0 0), (9, iv (r3.1)), (10, iv (r3.2))], ⟨[(0, .blk 25 [iv (first.flow.lo), iv (first.flow.hi), iv (first.warm.lo), iv (first.warm.hi)])], (wormtublaw05_StreamRooms_R l), []⟩⟩) [.call ⟨[], (wormtublaw05_StreamRooms_R l), []⟩ 19 [.agg [iv (first.flow.lo), iv (first.flow.hi), iv (first.warm.lo), iv (first.warm.hi)], .sl 0, iv (at'), iv (limit)] (.tup [iv (r3.1), iv (r3.2)])] S (by kernel_rfl) (by kernel_rfl) (by kernel_rfl) ⟨⟨enters_19, fun E W _ hm => by obtain ⟨A0, c0, q0, l0, s0, _⟩ := Mem.sl hm (s := 0) rfl; simp only [SV.vals, SV.val, q0]; exact stream_Room_ok fuel (MWater.mk (MSpan.mk first.flow.lo first.flow.hi) (MSpan.mk first.warm.lo first.warm.hi)) l at' limit W A0 c0 l0 s0 r3 e3⟩, trivial⟩ ?_
    clear S; intro E a w S
    obtain ⟨r4, e4, h⟩ := bind_some h
    refine sym_seq lay_ok mixed [(4, { res := .tup [iv (r4.1), iv (r4.2)] })] [9, 10, 11, 12] [] (⟨[(9, iv (r3.1)), (10, iv (r3.2)), (11, iv (r4.1)), (12, iv (r4.2))], ⟨[], (wormtublaw05_StreamRooms_R l), []⟩⟩) [.call ⟨[], (wormtublaw05_StreamRooms_R l), []⟩ 20 [.agg [iv (first.flow.lo), iv (first.flow.hi), iv (first.warm.lo), iv (first.warm.hi)], .sl 0, iv (at'), iv (limit)] (.tup [iv (r4.1), iv (r4.2)])] S (by kernel_rfl) (by kernel_rfl) (by kernel_rfl) ⟨⟨enters_20, fun E W _ hm => by obtain ⟨A0, c0, q0, l0, s0, _⟩ := Mem.sl hm (s := 0) rfl; simp only [SV.vals, SV.val, q0]; exact wormtubref05_Room_ok fuel (MWater.mk (MSpan.mk first.flow.lo first.flow.hi) (MSpan.mk first.warm.lo first.warm.hi)) l at' limit W A0 c0 l0 s0 r4 e4⟩, trivial⟩ ?_
    clear S; intro E a w S
    obtain ⟨r5, e5, h⟩ := bind_some h
    refine sym_seq lay_ok mixed [(4, { og := true }), (5, { og := true }), (6, { og := true }), (7, { pk := true }), (9, { og := true, res := .v (.bool r5) }), (10, { pk := true })] [8] [] (⟨[(8, .v (.bool (((r3.1 == r4.1) && (r3.2 == r4.2)) && r5)))], ⟨[], (wormtublaw05_StreamRooms_R l), []⟩⟩) [.imp (r3.1 == r4.1) (r3.1 == r4.1), .imp (r3.1 == r4.1) (r3.1 == r4.1), .imp (r3.1 == r4.1) (r3.1 == r4.1), .when ((r3.1 == r4.1) && (r3.2 == r4.2)) (.call ⟨[], (wormtublaw05_StreamRooms_R l), []⟩ 12 [] (.v (.bool r5))), .imp ((r3.1 == r4.1) && (r3.2 == r4.2)) ((r3.1 == r4.1) && (r3.2 == r4.2))] S (by kernel_rfl) (by kernel_rfl) (by kernel_rfl) ⟨fun h => h, fun h => h, fun h => h, fun hW => ⟨enters_12, fun _ W _ hm => wormtublaw05_awake_ok  W r5 (bif_t hW e5)⟩, fun h => h, trivial⟩ ?_
    clear S; intro E a w S
    refine wp_ret ?_
    have h := Option.some.inj h
    subst h
    exact sym_ret lay_ok [.v (.bool (((r3.1 == r4.1) && (r3.2 == r4.2)) && r5))] (by kernel_rfl) rfl S ⟨rfl, S.below rfl⟩
end Go.Proofs.Ytlcccomdijdkaaa
namespace Go.Proofs.Ytlcccomdijdkaaa
open Go.RowKit Go.Proofs.Try

theorem anyLoop_eq (l : List MWater) (limit : Int) (hl : l.length ≤ 1000) : ∀ (n i : Nat), i ≤ l.length → l.length < i + n →
    if ∀ w ∈ l.drop i, w.warm.hi ≤ limit then indexWarm_l1 l limit n (i : Int) = some (Lp.done ()) else ∃ j : Nat, indexWarm_l1 l limit n (i : Int) = some (Lp.ret (j : Int))
  | 0, i, h1, h2 => by omega
  | n + 1, i, h1, h2 => by
    rw [indexWarm_l1]
    by_cases hlt : i < l.length
    · have hd : l.drop i = l.getD i default :: l.drop (i + 1) := by
        rw [List.drop_eq_getElem_cons hlt]
        simp [List.getD, hlt]
      rw [cond_t (by simpa using hlt), grd_pos ⟨by omega, by omega⟩, hd]
      simp only [Int.toNat_natCast, tooWarm, Option.bind_some]
      clear hd
      obtain ⟨w, hw⟩ : ∃ w, w = l.getD i default := ⟨_, rfl⟩
      simp only [← hw]
      by_cases h3 : limit < w.warm.hi
      · rw [cond_t (by simpa using h3), if_neg (fun h => by have := h w (by simp); omega)]
        exact ⟨i, rfl⟩
      · rw [cond_f (by simpa using h3), grd_pos (by omega)]
        have ih := anyLoop_eq l limit hl n (i + 1) (by omega) (by omega)
        have e : (∀ x ∈ w :: l.drop (i + 1), x.warm.hi ≤ limit) ↔ ∀ x ∈ l.drop (i + 1), x.warm.hi ≤ limit := by simp; omega
        simp only [e]
        exact ih
    · have : l.drop i = [] := List.drop_eq_nil_of_le (by omega)
      rw [cond_f (by simpa using hlt), this]
      simp
theorem any_eq {fuel : Nat} (hf : 1000 < fuel) (l : List MWater) (limit : Int) (hl : l.length ≤ 1000) : anyWarm fuel l limit = some (!decide (∀ w ∈ l, w.warm.hi ≤ limit)) := by
  have h := anyLoop_eq l limit hl fuel 0 (by omega) (by omega)
  rw [List.drop_zero] at h
  unfold anyWarm indexWarm
  by_cases hh : ∀ w ∈ l, w.warm.hi ≤ limit
  · rw [if_pos hh] at h
    have h2 : indexWarm_l1 l limit fuel 0 = _ := h
    rw [bind_ok h2]
    simp only [Lp.go, indexWarm_k1, Option.bind_some]
    rw [decide_eq_true hh]
    rfl
  · rw [if_neg hh] at h
    obtain ⟨j, h⟩ := h
    have h2 : indexWarm_l1 l limit fuel 0 = _ := h
    rw [bind_ok h2]
    simp only [Lp.go, Option.bind_some, hh, decide_false, Bool.not_false]
    simp
theorem insertP_len (l : List MPoint) (at' h : Int) : (insertP l at' h).length = l.length + 1 := by
  unfold insertP
  simp
  omega
theorem tooMuch_eq {fuel : Nat} (hf : 1000 < fuel) {c : MWater} {l : List MPoint} {at' : Int} (hc : okW c) (h0 : 0 ≤ at') (h1 : at' ≤ l.length) (hl : l.length ≤ 64) (limit heat : Int) : tooMuch fuel c l at' limit heat = some (!fitB c l at' limit heat) := by
  have hi := insertP_len l at' heat
  have hlen := flowS_len (insertP l at' heat) c
  unfold tooMuch
  rw [grd_pos ⟨h0, h1, by omega⟩, bind_ok (follow_eq (insertP l at' heat) c [] hc (by simp only [List.length_nil]; omega))]
  simp only [List.nil_append]
  unfold fitB goodB
  by_cases h2 : (flowS c (insertP l at' heat)).2 = 0
  · have hfull := hlen.2 h2
    rw [grd_pos (fun _ => ⟨h0, by omega, by omega⟩), cond_t (by simpa using h2), List.take_of_length_le (by simp)]
    rw [bind_ok (any_eq hf _ limit (by simp; omega))]
    simp [h2]
  · rw [grd_pos (fun h => absurd h (by simpa using h2)), cond_f (by simpa using h2)]
    simp [h2]
theorem fitsLoop_eq (z : List MWater × Int × Int) (limit : Int) (hl : z.1.length ≤ 1000) : ∀ (n i : Nat), i ≤ z.1.length → z.1.length < i + n →
    wormtubref05_Fits_l1 limit z n (i : Int) = some (if ∀ w ∈ z.1.drop i, w.warm.hi ≤ limit then Lp.done () else Lp.ret false)
  | 0, i, h1, h2 => by omega
  | n + 1, i, h1, h2 => by
    rw [wormtubref05_Fits_l1]
    by_cases hlt : i < z.1.length
    · have hd : z.1.drop i = z.1.getD i default :: z.1.drop (i + 1) := by
        rw [List.drop_eq_getElem_cons hlt]
        simp [List.getD, hlt]
      rw [cond_t (by simpa using hlt), grd_pos ⟨by omega, by omega⟩, hd]
      simp only [Int.toNat_natCast]
      clear hd
      obtain ⟨w, hw⟩ : ∃ w, w = z.1.getD i default := ⟨_, rfl⟩
      simp only [← hw]
      by_cases h3 : limit < w.warm.hi
      · rw [cond_t (by simpa using h3), if_neg (fun h => by have := h w (by simp); omega)]
      · rw [cond_f (by simpa using h3), grd_pos (by omega)]
        have ih := fitsLoop_eq z limit hl n (i + 1) (by omega) (by omega)
        have e : (∀ x ∈ w :: z.1.drop (i + 1), x.warm.hi ≤ limit) ↔ ∀ x ∈ z.1.drop (i + 1), x.warm.hi ≤ limit := by simp; omega
        simp only [e]
        exact ih
    · have : z.1.drop i = [] := List.drop_eq_nil_of_le (by omega)
      rw [cond_f (by simpa using hlt), this]
      simp
/-- the document's way down, without its first checks -/
theorem refdown_eq {fuel : Nat} (hf : 1001 < fuel) {c : MWater} {l : List MPoint} (hc : okW c) (hl : l.length ≤ 1000) : wormtubref05_flow fuel c l = some (if (flowS c l).2 ≠ 0 then ([], ((flowS c l).1.length : Int), (flowS c l).2) else ((flowS c l).1, ((flowS c l).1.length : Int), 0)) := by
  unfold wormtubref05_flow
  have hr : wormtubref05_flow_l1 l fuel (0, c.flow.lo, c.flow.hi, c.warm.lo, c.warm.hi, []) = _ := refLoop_eq l (by omega) fuel 0 c [] hc (by omega) (by omega) rfl
  rw [List.drop_zero] at hr
  rw [hr]
  simp only [Option.bind_some]
  have hlen := flowS_len l c
  by_cases h2 : (flowS c l).2 = 0
  · rw [if_neg (by simpa using h2), if_neg (by simpa using h2)]
    simp [Lp.go, wormtubref05_flow_k1, hlen.2 h2]
  · rw [if_pos h2, if_pos h2]
    simp [Lp.go]
theorem fits_eq {fuel : Nat} (hf : 1001 < fuel) {c : MWater} {l : List MPoint} {at' : Int} (hc : okW c) (h0 : 0 ≤ at') (h1 : at' ≤ l.length) (hl : l.length ≤ 64) (limit heat : Int) : wormtubref05_Fits fuel c l at' limit heat = some (fitB c l at' limit heat) := by
  have hi := insertP_len l at' heat
  have hlen := flowS_len (insertP l at' heat) c
  have e : (((([] : List MPoint) ++ ((l.drop 0).take ((Int.toNat at') - 0))) ++ [(MPoint.mk 2 (MSpan.mk 0 0) (MSpan.mk 0 0) (MSpan.mk heat heat) (MSpan.mk 0 0))]) ++ ((l.drop (Int.toNat at')).take (l.length - (Int.toNat at')))) = insertP l at' heat := by
    unfold insertP
    rw [List.take_of_length_le (l := l.drop (Int.toNat at')) (by simp)]
    simp [addP]
  unfold wormtubref05_Fits
  rw [e]
  rw [grd_pos ⟨⟨by omega, h0, h1⟩, by simp; omega⟩, grd_pos (by simp; omega), grd_pos ⟨⟨h0, h1, by omega⟩, by simp; omega⟩]
  refine Eq.trans (bind_ok (refdown_eq hf hc (by omega)) _) ?_
  unfold fitB goodB
  by_cases h2 : (flowS c (insertP l at' heat)).2 = 0
  · have hfull := hlen.2 h2
    rw [if_neg (by simpa using h2)]
    refine Eq.trans (cond_f (by rfl) _ _) ?_
    have hL := fitsLoop_eq ((flowS c (insertP l at' heat)).1, ((flowS c (insertP l at' heat)).1.length : Int), 0) limit (by simp only; omega) fuel at'.toNat (by simp only; omega) (by simp only; omega)
    rw [Int.toNat_of_nonneg h0] at hL
    rw [bind_ok hL]
    by_cases h3 : ∀ w ∈ (flowS c (insertP l at' heat)).1.drop at'.toNat, w.warm.hi ≤ limit
    · rw [if_pos h3]
      rw [decide_eq_true ⟨h2, h3⟩]
      rfl
    · rw [if_neg h3]
      rw [decide_eq_false (fun h => h3 h.2)]
      rfl
  · rw [if_pos h2]
    refine Eq.trans (cond_t (by simpa using h2) _ _) ?_
    simp [h2]
/-- the first heat that is too much, found by halves -/
theorem searchLoop_eq {fuel : Nat} (hf : 1000 < fuel) {c : MWater} {l : List MPoint} {at' : Int} (hc : okW c) (h0 : 0 ≤ at') (h1 : at' ≤ l.length) (hl : l.length ≤ 64) (limit : Int) :
    ∀ (n m : Nat) (lo hi : Int), n ≤ m → 0 ≤ lo → lo ≤ hi → hi ≤ 1099511627777 → hi - lo < 2 ^ n → (∀ x, 0 ≤ x → x < lo → fitB c l at' limit x = true) → (∀ x, hi ≤ x → x ≤ 1099511627776 → fitB c l at' limit x = false) →
    ∃ r : Int, searchRoom_l1 fuel c l at' limit (m + 1) (lo, hi) = some (Lp.done r) ∧ 0 ≤ r ∧ r ≤ 1099511627777 ∧ (∀ x, 0 ≤ x → x < r → fitB c l at' limit x = true) ∧ (∀ x, r ≤ x → x ≤ 1099511627776 → fitB c l at' limit x = false) := by
  intro n
  induction n with
  | zero =>
    intro m lo hi _ a0 a1 a2 a3 g1 g2
    have : hi = lo := by simp at a3; omega
    subst this
    refine ⟨hi, ?_, a0, a2, g1, g2⟩
    rw [searchRoom_l1, cond_f (by simp)]
  | succ n ih =>
    intro m lo hi hm a0 a1 a2 a3 g1 g2
    obtain ⟨m, rfl⟩ : ∃ k, m = k + 1 := ⟨m - 1, by omega⟩
    by_cases hlt : lo < hi
    · rw [searchRoom_l1]
      simp only
      have hp : (2 : Int) ^ (n + 1) = 2 * 2 ^ n := by rw [Int.pow_succ, Int.mul_comm]
      rw [hp] at a3
      rw [cond_t (by simpa using hlt), grd_pos ⟨by omega, by unfold InU64; omega, by omega, by omega⟩, bind_ok (tooMuch_eq hf hc h0 h1 hl limit _)]
      by_cases hx : fitB c l at' limit ((lo + hi) / 2) = true
      · rw [hx, Bool.not_not, cond_t rfl, grd_pos (by omega)]
        refine ih m _ _ (by omega) (by omega) (by omega) a2 (by omega) (fun x x0 x1 => ?_) g2
        exact fit_mono hc x0 (by omega) hx
      · have hx' : fitB c l at' limit ((lo + hi) / 2) = false := by simpa using hx
        rw [hx', Bool.not_not, cond_f rfl]
        refine ih m _ _ (by omega) a0 (by omega) (by omega) (by omega) g1 (fun x x0 x1 => ?_)
        cases hc2 : fitB c l at' limit x with
        | false => rfl
        | true => exact absurd (fit_mono hc (by omega) x0 hc2) hx
    · have : hi = lo := by omega
      subst this
      refine ⟨hi, ?_, a0, a2, g1, g2⟩
      rw [searchRoom_l1, cond_f (by simp)]
/-- the last heat that fits, found by halves -/
theorem roomLoop_eq {fuel : Nat} (hf : 1001 < fuel) {c : MWater} {l : List MPoint} {at' : Int} (hc : okW c) (h0 : 0 ≤ at') (h1 : at' ≤ l.length) (hl : l.length ≤ 64) (limit : Int) :
    ∀ (n m : Nat) (lo hi : Int), n ≤ m → 0 ≤ lo → lo ≤ hi → hi ≤ 1099511627776 → hi - lo < 2 ^ n → fitB c l at' limit lo = true → (∀ x, hi < x → x ≤ 1099511627776 → fitB c l at' limit x = false) →
    ∃ r : Int, wormtubref05_Room_l1 fuel c l at' limit (m + 1) (lo, hi) = some (Lp.done r) ∧ 0 ≤ r ∧ r ≤ 1099511627776 ∧ fitB c l at' limit r = true ∧ (∀ x, r < x → x ≤ 1099511627776 → fitB c l at' limit x = false) := by
  intro n
  induction n with
  | zero =>
    intro m lo hi _ a0 a1 a2 a3 g1 g2
    have : hi = lo := by simp at a3; omega
    subst this
    refine ⟨hi, ?_, a0, a2, g1, g2⟩
    rw [wormtubref05_Room_l1, cond_f (by simp)]
  | succ n ih =>
    intro m lo hi hm a0 a1 a2 a3 g1 g2
    obtain ⟨m, rfl⟩ : ∃ k, m = k + 1 := ⟨m - 1, by omega⟩
    by_cases hlt : lo < hi
    · rw [wormtubref05_Room_l1]
      simp only
      have hp : (2 : Int) ^ (n + 1) = 2 * 2 ^ n := by rw [Int.pow_succ, Int.mul_comm]
      rw [hp] at a3
      rw [tdiv_eq (show 0 ≤ lo + hi + 1 by omega)]
      rw [cond_t (by simpa using hlt), grd_pos ⟨by omega, by omega, by omega⟩]
      have e := fits_eq hf hc h0 h1 hl limit ((lo + hi + 1) / 2)
      rw [show wormtubref05_Fits fuel (MWater.mk (MSpan.mk c.flow.lo c.flow.hi) (MSpan.mk c.warm.lo c.warm.hi)) l at' limit ((lo + hi + 1) / 2) = _ from e, Option.bind_some]
      by_cases hx : fitB c l at' limit ((lo + hi + 1) / 2) = true
      · rw [hx, cond_t rfl]
        exact ih m _ _ (by omega) (by omega) (by omega) a2 (by omega) hx g2
      · have hx' : fitB c l at' limit ((lo + hi + 1) / 2) = false := by simpa using hx
        rw [hx', cond_f rfl, grd_pos (by omega)]
        refine ih m _ _ (by omega) a0 (by omega) (by omega) (by omega) g1 (fun x x0 x1 => ?_)
        cases hc2 : fitB c l at' limit x with
        | false => rfl
        | true => exact absurd (fit_mono hc (by omega) (show (lo + hi + 1) / 2 ≤ x by omega) hc2) hx
    · have : hi = lo := by omega
      subst this
      refine ⟨hi, ?_, a0, a2, g1, g2⟩
      rw [wormtubref05_Room_l1, cond_f (by simp)]
end Go.Proofs.Ytlcccomdijdkaaa
namespace Go.Proofs.Ytlcccomdijdkaaa
open Go.RowKit Go.Proofs.Try

theorem FlowS_short {first : MWater} {l : List MPoint} (hw : okW first) (h : (FlowS first l).2.2 = 0) : l.length ≤ 64 := by
  unfold FlowS at h
  rw [if_neg (by simpa using hw)] at h
  by_cases h1 : 64 < l.length
  · rw [if_pos h1] at h; cases h
  · omega
theorem Room_bad1 {fuel : Nat} {first : MWater} (l : List MPoint) (at' limit : Int) (hw : ¬ okW first) : stream_Room fuel first l at' limit = some (0, 1) := by
  unfold stream_Room
  refine Eq.trans (bind_ok (validWater_eq first) _) ?_
  exact cond_t (not_dec hw) _ _
theorem refRoom_bad1 {fuel : Nat} {first : MWater} (l : List MPoint) (at' limit : Int) (hw : ¬ okW first) : wormtubref05_Room fuel first l at' limit = some (0, 1) := by
  unfold wormtubref05_Room
  refine Eq.trans (bind_ok (refWater_eq first) _) ?_
  exact cond_t (not_dec hw) _ _
theorem validLimit_eq (limit : Int) : stream_validLimit limit = some (decide (0 ≤ limit ∧ limit ≤ 100000)) := by rw [stream_validLimit]; simp
theorem Room_bad2 {fuel : Nat} {first : MWater} {l : List MPoint} {at' limit : Int} (hw : okW first) (h : ¬ ((0 ≤ limit ∧ limit ≤ 100000) ∧ 0 ≤ at' ∧ at' ≤ l.length)) : stream_Room fuel first l at' limit = some (0, 2) := by
  unfold stream_Room
  refine Eq.trans (bind_ok (validWater_eq first) _) ?_
  refine Eq.trans (cond_f (by simp [hw]) _ _) ?_
  refine Eq.trans (bind_ok (validLimit_eq limit) _) ?_
  refine cond_t ?_ _ _
  by_cases h1 : 0 ≤ limit ∧ limit ≤ 100000
  · rw [decide_eq_true h1]
    simp
    omega
  · rw [decide_eq_false h1]
    rfl
theorem refRoom_bad2 {fuel : Nat} {first : MWater} {l : List MPoint} {at' limit : Int} (hw : okW first) (h : ¬ ((0 ≤ limit ∧ limit ≤ 100000) ∧ 0 ≤ at' ∧ at' ≤ l.length)) : wormtubref05_Room fuel first l at' limit = some (0, 2) := by
  unfold wormtubref05_Room
  refine Eq.trans (bind_ok (refWater_eq first) _) ?_
  refine Eq.trans (cond_f (by simp [hw]) _ _) ?_
  refine Eq.trans (bind_ok (in_eq limit 0 100000) _) ?_
  by_cases h1 : 0 ≤ limit ∧ limit ≤ 100000
  · rw [decide_eq_true h1, in_eq]
    have h2 : ¬ (0 ≤ at' ∧ at' ≤ (l.length : Int)) := fun h3 => h ⟨h1, h3⟩
    rw [decide_eq_false h2]
    rfl
  · rw [decide_eq_false h1]
    rfl
theorem Room_good {fuel : Nat} {first : MWater} {l : List MPoint} {at' limit : Int} (hw : okW first) (h1 : 0 ≤ limit ∧ limit ≤ 100000) (h2 : 0 ≤ at' ∧ at' ≤ l.length) : stream_Room fuel first l at' limit = (bif (FlowS first l).2.2 != 0 then some (0, (FlowS first l).2.2) else
    (searchRoom fuel first l at' limit 1099511627777).bind fun r9 => bif r9 == 0 then some (0, 11) else grd (InI64 (r9 - 1)) <| some (r9 - 1, 0)) := by
  unfold stream_Room
  refine Eq.trans (bind_ok (validWater_eq first) _) ?_
  refine Eq.trans (cond_f (by simp [hw]) _ _) ?_
  refine Eq.trans (bind_ok (validLimit_eq limit) _) ?_
  refine Eq.trans (cond_f (by rw [decide_eq_true h1]; simp; omega) _ _) ?_
  exact bind_ok (Flow_eq first l) _
theorem refRoom_good {fuel : Nat} (hf : 65 < fuel) {first : MWater} {l : List MPoint} {at' limit : Int} (hw : okW first) (h1 : 0 ≤ limit ∧ limit ≤ 100000) (h2 : 0 ≤ at' ∧ at' ≤ l.length) : wormtubref05_Room fuel first l at' limit = (bif (FlowS first l).2.2 != 0 then some (0, (FlowS first l).2.2) else
    (wormtubref05_Fits fuel first l at' limit 0).bind fun r5 => bif !r5 then some (0, 11) else (wormtubref05_Room_l1 fuel first l at' limit fuel (0, 1099511627776)).bind fun lr1 => lr1.go fun x1 => wormtubref05_Room_k1 x1) := by
  unfold wormtubref05_Room
  refine Eq.trans (bind_ok (refWater_eq first) _) ?_
  refine Eq.trans (cond_f (by simp [hw]) _ _) ?_
  refine Eq.trans (bind_ok (in_eq limit 0 100000) _) ?_
  rw [decide_eq_true h1, in_eq, decide_eq_true h2]
  exact bind_ok (refFlow_eq hf first l) _
theorem room_same (first : MWater) (l : List MPoint) (at' limit : Int) : ∃ r, stream_Room FU first l at' limit = some r ∧ wormtubref05_Room FU first l at' limit = some r := by
  have hF : (1001 : Nat) < FU := by decide
  by_cases hw : okW first
  · by_cases h : (0 ≤ limit ∧ limit ≤ 100000) ∧ 0 ≤ at' ∧ at' ≤ l.length
    · obtain ⟨h1, h2⟩ := h
      rw [Room_good hw h1 h2, refRoom_good (by omega) hw h1 h2]
      by_cases hz : (FlowS first l).2.2 = 0
      · have hl := FlowS_short hw hz
        rw [cond_f (by simpa using hz), cond_f (by simpa using hz)]
        obtain ⟨k, hk⟩ : ∃ k, FU = k + 1 ∧ 41 ≤ k := ⟨1099511627775, by decide, by decide⟩
        obtain ⟨hk, hk2⟩ := hk
        obtain ⟨r9, e9, a1, a2, a3, a4⟩ := searchLoop_eq (fuel := FU) (by omega) hw h2.1 h2.2 hl limit 41 k 0 1099511627777 hk2 (by omega) (by omega) (by omega) (by decide) (fun x x0 x1 => by omega) (fun x x0 x1 => by omega)
        have es : searchRoom FU first l at' limit 1099511627777 = some r9 := by
          unfold searchRoom
          rw [show searchRoom_l1 FU first l at' limit FU (0, 1099511627777) = _ from (congrArg (fun z => searchRoom_l1 FU first l at' limit z (0, 1099511627777)) hk).trans e9]
          rfl
        rw [bind_ok es, bind_ok (fits_eq hF hw h2.1 h2.2 hl limit 0)]
        by_cases h0 : fitB first l at' limit 0 = true
        · have hr : r9 ≠ 0 := fun e => by
            have := a4 0 (by omega) (by omega)
            rw [h0] at this
            cases this
          obtain ⟨r, e, b1, b2, b3, b4⟩ := roomLoop_eq (fuel := FU) hF hw h2.1 h2.2 hl limit 41 k 0 1099511627776 hk2 (by omega) (by omega) (by omega) (by decide) h0 (fun x x0 x1 => by omega)
          have er : wormtubref05_Room_l1 FU first l at' limit FU (0, 1099511627776) = some (Lp.done r) := (congrArg (fun z => wormtubref05_Room_l1 FU first l at' limit z (0, 1099511627776)) hk).trans e
          have e1 : r = r9 - 1 := by
            have g1 : r < r9 := by
              refine Int.lt_of_not_ge fun hge => ?_
              have := a4 r hge b2
              rw [b3] at this
              cases this
            have g2 : ¬ r < r9 - 1 := fun hlt => by
              have := b4 (r9 - 1) hlt (by omega)
              rw [a3 (r9 - 1) (by omega) (by omega)] at this
              cases this
            omega
          refine ⟨(r9 - 1, 0), ?_, ?_⟩
          · rw [cond_f (by simpa using hr), grd_pos (by omega)]
          · rw [h0, Bool.not_true, cond_f rfl, bind_ok er, ← e1]
            rfl
        · have h0' : fitB first l at' limit 0 = false := by simpa using h0
          have hr : r9 = 0 := by
            refine Int.le_antisymm ?_ a1
            refine Int.le_of_not_gt fun hgt => ?_
            exact h0 (a3 0 (by omega) hgt)
          refine ⟨(0, 11), ?_, ?_⟩
          · rw [cond_t (by simpa using hr)]
          · rw [h0', Bool.not_false, cond_t rfl]
      · rw [cond_t (by simpa using hz), cond_t (by simpa using hz)]
        exact ⟨_, rfl, rfl⟩
    · exact ⟨_, Room_bad2 hw h, refRoom_bad2 hw h⟩
  · exact ⟨_, Room_bad1 l at' limit hw, refRoom_bad1 l at' limit hw⟩
theorem rooms_true (first : MWater) (l : List MPoint) (at' limit : Int) : wormtublaw05_StreamRooms FU first l at' limit = some true := by
  unfold wormtublaw05_StreamRooms
  obtain ⟨b, hb⟩ : ∃ b, wormtublaw05_long l = some b := ⟨_, rfl⟩
  rw [bind_ok hb]
  cases b
  · obtain ⟨r, e1, e2⟩ := room_same first l at' limit
    rw [cond_f rfl]
    refine Eq.trans (bind_ok e1 _) ?_
    refine Eq.trans (bind_ok e2 _) ?_
    simp [awake_true]
  · rw [cond_t rfl, awake_true]
    rfl
end Go.Proofs.Ytlcccomdijdkaaa
