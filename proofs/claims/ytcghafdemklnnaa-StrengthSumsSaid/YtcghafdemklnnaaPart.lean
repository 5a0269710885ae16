/- A part: whether it is valid, its pure alcohol, and Pure. -/
import Derived.Test.YtcghafdemklnnaaVolume
namespace Go.Proofs.Ytcghafdemklnnaa
open Go.RowKit Go.Sort
attribute [local go_sem] Oper.calm Oper.calmAt Oper.calmUpon

structure PartV where
  al : Int
  ah : Int
  sl : Int
  sh : Int
  deriving DecidableEq
def PartOk (p : PartV) : Prop := (p.al ≤ p.ah ∧ 0 ≤ p.al ∧ p.ah ≤ 1099511627776) ∧ (p.sl ≤ p.sh ∧ 0 ≤ p.sl ∧ p.sh ≤ 10000)
instance (p : PartV) : Decidable (PartOk p) := by unfold PartOk; infer_instance
def pureLo (p : PartV) : Int := p.al * p.sl / 10000
def pureHi (p : PartV) : Int := upDiv (p.ah * p.sh) 10000
theorem pure_bd {p : PartV} (h : PartOk p) : 0 ≤ pureLo p ∧ pureLo p ≤ 1099511627776 ∧ 0 ≤ pureHi p ∧ pureHi p ≤ 1099511627776 := by
  obtain ⟨⟨h1, h2, h3⟩, h4, h5, h6⟩ := h
  have e1 : p.al * p.sl ≤ 1099511627776 * 10000 := Int.mul_le_mul (by omega) (by omega) h5 (by omega)
  have e2 : p.ah * p.sh ≤ 1099511627776 * 10000 := Int.mul_le_mul h3 h6 (by omega) (by omega)
  have e3 : 0 ≤ p.al * p.sl := Int.mul_nonneg h2 h5
  have e4 : 0 ≤ p.ah * p.sh := Int.mul_nonneg (by omega) (by omega)
  unfold pureLo pureHi upDiv
  generalize p.al * p.sl = x at *
  generalize p.ah * p.sh = y at *
  split <;> omega

set_option maxHeartbeats 2000000 in
set_option maxRecDepth 100000 in
theorem validPart_any (al ah sl sh : Int) (w : World) :
    Calls Try.prog 66 #[.agg #[.int .i64 al, .int .i64 ah, .int .i64 sl, .int .i64 sh]] w (SomeBool (PartOk ⟨al, ah, sl, sh⟩) w) := by
  have h1 := Lib.hid fun W => within_any al ah 0 1099511627776 W
  have h2 := Lib.hid fun W => within_any sl sh 0 10000 W
  go_enter Try.func66, Try.ntmps66
  go_wp2_with fail
  refine calls_world (fun W => Below w.heap.size w W ∧ Blk W w.heap.size 41 #[.int .i64 al, .int .i64 ah, .int .i64 sl, .int .i64 sh]) ⟨(Below.refl _ _).alloc (Nat.le_refl _) _, Blk.new _ _ _⟩ ?_
  rintro W0 ⟨hB0, b0⟩
  refine (h1.out _).mono ?_
  rintro e W1 ⟨r, rfl, hr, hb1⟩
  have hB1 := hB0.trans (hb1.mono hB0.size)
  replace b0 := b0.below hb1 b0.lt
  obtain ⟨x0, x1, x2, x3, _, _, _, _⟩ := b0.facts4
  cases r with
  | false =>
    replace hr := Lib.hid (fun h => Bool.noConfusion (hr.2 h) : ¬ _)
    go_wp2
    go_ret
    exact SomeBool.no (fun h => hr.out h.1) hB1
  | true =>
    replace hr := Lib.hid (hr.1 rfl)
    go_wp2_with fail
    refine (h2.out _).mono ?_
    rintro e W2 ⟨q, rfl, hq, hb2⟩
    have hB2 := hB1.trans (hb2.mono hB1.size)
    replace hq := Lib.hid hq
    go_wp2
    go_ret
    exact ⟨q, rfl, ⟨fun h => ⟨hr.out, hq.out.1 h⟩, fun h => hq.out.2 h.2⟩, hB2⟩

set_option maxHeartbeats 2000000 in
set_option maxRecDepth 100000 in
theorem pure_any (al ah sl sh : Int) (w : World) (hp : PartOk ⟨al, ah, sl, sh⟩) :
    Calls Try.prog 67 #[.agg #[.int .i64 al, .int .i64 ah, .int .i64 sl, .int .i64 sh]] w fun e w' => e = .returned (.agg #[.int .i64 (pureLo ⟨al, ah, sl, sh⟩), .int .i64 (pureHi ⟨al, ah, sl, sh⟩)]) ∧ Below w.heap.size w w' := by
  obtain ⟨b1, b2, b3, b4⟩ := pure_bd hp
  obtain ⟨⟨h1, h2, h3⟩, h4, h5, h6⟩ := hp
  dsimp only at h1 h2 h3 h4 h5 h6
  have e1 : al * sl ≤ 1099511627776 * 10000 := Int.mul_le_mul (by omega) (by omega) h5 (by omega)
  have e2 : ah * sh ≤ 1099511627776 * 10000 := Int.mul_le_mul h3 h6 (by omega) (by omega)
  have hdn := Lib.hid fun W => partDown_any divFor_small al sl 10000 (pureLo ⟨al, ah, sl, sh⟩) W (by omega) (by omega) (by omega) (by omega) (by omega) (by omega) (by omega) rfl (by omega)
  have hup := Lib.hid fun W => partUp_any divFor_small ah sh 10000 (pureHi ⟨al, ah, sl, sh⟩) W (by omega) (by omega) (by omega) (by omega) (by omega) (by omega) (by omega) rfl (by omega)
  generalize pureLo ⟨al, ah, sl, sh⟩ = pl at *
  generalize pureHi ⟨al, ah, sl, sh⟩ = ph at *
  clear e1 e2
  go_enter Try.func67, Try.ntmps67
  go_upto_region 1 with fail
  refine wp_world (fun W => Below w.heap.size w W ∧ Blk W w.heap.size 41 #[.int .i64 al, .int .i64 ah, .int .i64 sl, .int .i64 sh] ∧ Blk W (w.heap.size + 1) 27 #[.int .i64 0, .int .i64 0]) ⟨((Below.refl _ _).alloc (Nat.le_refl _) _).alloc (by simp) _, (Blk.new _ _ _).alloc _, blk_at (by simp)⟩ ?_
  rintro W0 ⟨hB0, b0, bs⟩
  obtain ⟨x0, x1, x2, x3, _, _, _, _⟩ := b0.facts4
  have x0' := fun d os => cell_regrown x0 d os
  have x1' := fun d os => cell_regrown x1 d os
  have x2' := fun d os => cell_regrown x2 d os
  have x3' := fun d os => cell_regrown x3 d os
  refine wp_region_below_tail 15 (by kernel_rfl) (by kernel_rfl) ?_
  simp only [List.take_succ_cons, List.take_zero, List.drop_succ_cons, List.drop_zero]
  repeat (quiet_step (first | (go_at_call 61; exact quiet_call (fun W1 _ => hdn.out W1)) | (go_at_call 62; exact quiet_call (fun W1 _ => hup.out W1))))
  refine wpQuiet_nil ?_
  intro _ hw'
  obtain ⟨⟨dq, osq⟩, hw''⟩ := hw'
  subst hw''
  have hb1 := below_regrown W0 dq osq
  replace bs := bs.below hb1 bs.lt
  have hB1 := hB0.trans (hb1.mono hB0.size)
  clear x0 x1 x2 x3 x0' x1' x2' x3' b0 hb1 hB0
  generalize grow (redrawn W0 dq) osq = W1 at bs hB1 ⊢
  obtain ⟨r0, r1, _, _⟩ := bs.facts2
  go_wp2
  refine bodyPost_ret (v := .agg #[.int .i64 pl, .int .i64 ph]) (by simp [results, Try.results67, go_sem, r0, r1]) rfl ⟨rfl, ?_⟩
  exact (hB1.setCell (by simp only; omega) _).setCell (by simp only; omega) _

def PureIs (al ah sl sh a b k : Int) : Prop := (¬ PartOk ⟨al, ah, sl, sh⟩ ∧ a = 0 ∧ b = 0 ∧ k = 1) ∨ (PartOk ⟨al, ah, sl, sh⟩ ∧ a = pureLo ⟨al, ah, sl, sh⟩ ∧ b = pureHi ⟨al, ah, sl, sh⟩ ∧ k = 0)

set_option maxHeartbeats 2000000 in
set_option maxRecDepth 100000 in
theorem Pure_any (al ah sl sh : Int) (w : World) :
    Calls Try.prog 26 #[.agg #[.int .i64 al, .int .i64 ah], .agg #[.int .i64 sl, .int .i64 sh]] w (SpanErr (PureIs al ah sl sh) w) := by
  have hv := Lib.hid fun W => validPart_any al ah sl sh W
  go_enter Try.func26, Try.ntmps26
  go_wp2_with fail
  refine calls_world (fun W => Below w.heap.size w W ∧ Blk W (w.heap.size + 1 + 1) 27 #[.int .i64 0, .int .i64 0] ∧ Blk W (w.heap.size + 1 + 1 + 1) 41 #[.int .i64 al, .int .i64 ah, .int .i64 sl, .int .i64 sh])
    ⟨((((Below.refl _ _).alloc (Nat.le_refl _) _).alloc (by simp) _).alloc (by simp; omega) _).alloc (by simp; omega) _, (blk_at (by simp)).alloc _, blk_at (by simp)⟩ ?_
  rintro W0 ⟨hB0, bs, bp⟩
  refine (hv.out _).mono ?_
  rintro e W1 ⟨r, rfl, hr, hb1⟩
  have hB1 := hB0.trans (hb1.mono hB0.size)
  replace bs := bs.below hb1 bs.lt
  replace bp := bp.below hb1 bp.lt
  clear hb1 hB0 hv
  obtain ⟨r0, r1, _, _⟩ := bs.facts2
  have n1 := bp.lt
  cases r with
  | false =>
    have hnf := Lib.hid (show PureIs al ah sl sh 0 0 1 from .inl ⟨fun h => Bool.noConfusion (hr.2 h), rfl, rfl, rfl⟩)
    clear hr
    go_wp2_with fail
    refine bodyPost_ret (v := .tuple #[.agg #[.int .i64 0, .int .i64 0], .int .i64 1]) (by simp [results, Try.results26, go_sem, r0, r1]) rfl ?_
    exact ⟨_, _, 1, rfl, hnf.out, (hB1.setCell (by simp only; omega) _).setCell (by simp only; omega) _⟩
  | true =>
    have hok := hr.1 rfl
    have hnf := Lib.hid (show PureIs al ah sl sh (pureLo ⟨al, ah, sl, sh⟩) (pureHi ⟨al, ah, sl, sh⟩) 0 from .inr ⟨hok, rfl, rfl, rfl⟩)
    have hpu := Lib.hid fun W => pure_any al ah sl sh W hok
    clear hr hok
    obtain ⟨x0, x1, x2, x3, _, _, _, _⟩ := bp.facts4
    go_wp2_with fail
    refine (hpu.out _).mono ?_
    rintro e W2 ⟨rfl, hb2⟩
    have hB2 := hB1.trans (hb2.mono hB1.size)
    replace bs := bs.below hb2 bs.lt
    have n2 := bs.lt
    clear x0 x1 x2 x3 r0 r1
    obtain ⟨r0, r1, _, _⟩ := bs.facts2
    go_wp2_with fail
    refine bodyPost_ret (v := .tuple #[.agg #[.int .i64 (pureLo ⟨al, ah, sl, sh⟩), .int .i64 (pureHi ⟨al, ah, sl, sh⟩)], .int .i64 0]) (by simp [results, Try.results26, go_sem, r0, r1]) rfl ?_
    exact ⟨_, _, 0, rfl, hnf.out, (hB2.setCell (by simp only; omega) _).setCell (by simp only; omega) _⟩
end Go.Proofs.Ytcghafdemklnnaa
