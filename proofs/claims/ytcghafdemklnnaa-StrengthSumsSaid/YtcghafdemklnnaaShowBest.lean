/- showing, then foremost: the weakest and the strongest spirit that shows a number. -/
import Derived.Test.YtcghafdemklnnaaShowSeq
namespace Go.Proofs.Ytcghafdemklnnaa
open Go.RowKit Go.Sort Go.Shelf

set_option maxHeartbeats 400000 in
theorem showing_any (v0 v1 v2 v3 : Value) (x xlo xhi : Int) (w : World) (h0 : ∃ A l c, v0 = .slice A l c) (h1 : ∃ A l c, v1 = .slice A l c) (h2 : ∃ A l c, v2 = .slice A l c) (h3 : ∃ A l c, v3 = .slice A l c) :
    Calls Try.prog 58 #[.agg #[v0, v1, v2, v3], .int .i64 x, .agg #[.int .i64 xlo, .int .i64 xhi]] w fun e w' =>
      e = .returned (.func (.func 79) #[] #[.pointer (some ⟨w.heap.size, 0, none⟩), .pointer (some ⟨w.heap.size + 1 + 1, 0, none⟩), .pointer (some ⟨w.heap.size + 1, 0, none⟩)]) ∧
      w' = ((w.alloc (.cells #[v0, v1, v2, v3] 25)).alloc (.cells #[.int .i64 x] 3)).alloc (.cells #[.int .i64 xlo, .int .i64 xhi] 27) := by
  obtain ⟨A0, l0, c0, rfl⟩ := h0
  obtain ⟨A1, l1, c1, rfl⟩ := h1
  obtain ⟨A2, l2, c2, rfl⟩ := h2
  obtain ⟨A3, l3, c3, rfl⟩ := h3
  go_enter Try.func58, Try.ntmps58
  go_wp2
  go_ret
  exact ⟨rfl, rfl⟩

theorem show_ok {T S : List Int} {Sh : List (List Int)} {temp x : Int} (hT : AxisOk T (-500) 1000) (hS : AxisOk S 0 10000) (hg : ShowOk T S Sh) (hx : Within T temp) : FracOk (showAt T S Sh x temp) ∧ (showAt T S Sh x temp).2 ≤ 240000000 ∧ -2400000000000 ≤ (showAt T S Sh x temp).1 ∧ (showAt T S Sh x temp).1 ≤ 2400000000000 := by
  obtain ⟨f1, f2, f3, f4, f5, f6⟩ := show_facts hT hS hg hx x
  have b0 := atF_bd hT hg hx (idxF T S Sh x temp)
  have b1 := atF_bd hT hg hx (idxF T S Sh x temp + 1)
  have c0 := hS.bd (idxF T S Sh x temp) (by omega)
  have c1 := hS.bd (idxF T S Sh x temp + 1) (by omega)
  unfold showAt showNum showDen FracOk
  dsimp only
  generalize atF T Sh temp (idxF T S Sh x temp) = a0 at *
  generalize atF T Sh temp (idxF T S Sh x temp + 1) = a1 at *
  generalize goalF T S Sh x temp = g at *
  generalize S[idxF T S Sh x temp]?.getD 0 = s0 at *
  generalize S[idxF T S Sh x temp + 1]?.getD 0 = s1 at *
  obtain ⟨q1, q1'⟩ := mul_in (a := a1 - g) (A := 120000000) (b := s0) (B := 10000) (by omega) (by omega) (by omega) (by omega) (by omega)
  obtain ⟨q2, q2'⟩ := mul_in (a := g - a0) (A := 120000000) (b := s1) (B := 10000) (by omega) (by omega) (by omega) (by omega) (by omega)
  simp only [Int.reduceMul, Int.reduceNeg] at q1 q1' q2 q2'
  omega

theorem showing_seq (Bt Bx Bs tb toff tcap sb soff scap rb roff rcap : Nat) (v3 : Value) (T S : List Int) (Sh : List (List Int)) (xv xlo xhi : Int) (h3 : ∃ A l c, v3 = .slice A l c)
    (hT : Hid (AxisOk T (-500) 1000)) (hS : Hid (AxisOk S 0 10000)) (hg : Hid (ShowOk T S Sh)) (hx : Hid (Within T xlo ∧ Within T xhi)) (w : World)
    (rT : Row w tb toff T) (rS : Row w sb soff S) (rG : Grid w rb roff Sh)
    (bt : Blk w Bt 25 #[.slice (some ⟨tb, toff, none⟩) T.length tcap, .slice (some ⟨sb, soff, none⟩) S.length scap, .slice (some ⟨rb, roff, none⟩) Sh.length rcap, v3]) (bx : Blk w Bx 27 #[.int .i64 xlo, .int .i64 xhi]) (bs : Blk w Bs 3 #[.int .i64 xv]) :
    SeqB Fence.wide Try.prog 79 #[.pointer (some ⟨Bt, 0, none⟩), .pointer (some ⟨Bx, 0, none⟩), .pointer (some ⟨Bs, 0, none⟩)] encF (showingL T S Sh xv xlo xhi) (fun k => k < w.heap.size) w := by
  intro n l J Jx W C hW hC hD hJ hJx hY h0
  have hz := hW.size
  have kr : Kept C w W := Kept.of_below hW
  have hG : GridD (fun k => k < w.heap.size) w rb roff Sh := ⟨rG.1, rG.1, fun i hi => by obtain ⟨b, off, cap, h1, h2⟩ := rG.2 i hi; exact ⟨b, off, cap, h1, h2, h2.1⟩⟩
  exact showing1_in n l Bt Bx Bs tb toff tcap sb soff scap rb roff rcap v3 T S Sh xv xlo xhi h3 hT hS hg hx (fun k => k < w.heap.size) C (Lib.hid hD) J Jx W (Lib.hid hC) (Lib.hid hJ) (Lib.hid hJx) (Lib.hid hY)
    (RowD.kept (D := fun k => k < w.heap.size) hD ⟨rT, rT.1⟩ kr) (RowD.kept (D := fun k => k < w.heap.size) hD ⟨rS, rS.1⟩ kr) (hG.kept hD kr)
    (bt.below hW bt.lt) (bx.below hW bx.lt) (bs.below hW bs.lt) (Lib.hid ⟨bt.lt, bx.lt, bs.lt⟩) h0

def weakF (T S : List Int) (Sh : List (List Int)) (x xlo xhi : Int) : Int × Int := bestF ltF (showingL T S Sh x xlo xhi)
def strongF (T S : List Int) (Sh : List (List Int)) (x xlo xhi : Int) : Int × Int := bestF gtF (showingL T S Sh x xlo xhi)

theorem show_best (tb toff tcap sb soff scap rb roff rcap : Nat) (v3 : Value) (T S : List Int) (Sh : List (List Int)) (x xlo xhi : Int) (h3 : ∃ A l c, v3 = .slice A l c)
    (hT : Hid (AxisOk T (-500) 1000)) (hS : Hid (AxisOk S 0 10000)) (hg : Hid (ShowOk T S Sh)) (hx : Hid (Within T xlo ∧ Within T xhi)) (w : World)
    (rT : Row w tb toff T) (rS : Row w sb soff S) (rG : Grid w rb roff Sh) (F : Nat) (p : Int × Int)
    (hF : (F = 56 ∧ p = weakF T S Sh x xlo xhi) ∨ (F = 59 ∧ p = strongF T S Sh x xlo xhi)) :
    Calls Try.prog 58 #[.agg #[.slice (some ⟨tb, toff, none⟩) T.length tcap, .slice (some ⟨sb, soff, none⟩) S.length scap, .slice (some ⟨rb, roff, none⟩) Sh.length rcap, v3], .int .i64 x, .agg #[.int .i64 xlo, .int .i64 xhi]] w fun e w' =>
      ∃ v, e = .returned v ∧ Below w.heap.size w w' ∧ Calls Try.prog 57 #[v, .func (.func F) #[] #[]] w' fun e w'' => e = .returned (.agg #[.int .i64 p.1, .int .i64 p.2]) ∧ Below w'.heap.size w' w'' := by
  refine (showing_any _ _ _ v3 x xlo xhi w ⟨_, _, _, rfl⟩ ⟨_, _, _, rfl⟩ ⟨_, _, _, rfl⟩ h3).mono ?_
  rintro e w' ⟨rfl, hw'⟩
  have hb : Below w.heap.size w w' := by
    subst hw'
    exact (((Below.refl _ _).alloc (Nat.le_refl _) _).alloc (by simp) _).alloc (by simp; omega) _
  have bt : Blk w' w.heap.size 25 #[.slice (some ⟨tb, toff, none⟩) T.length tcap, .slice (some ⟨sb, soff, none⟩) S.length scap, .slice (some ⟨rb, roff, none⟩) Sh.length rcap, v3] := by
    subst hw'; exact ((blk_at rfl).alloc _).alloc _
  have bs : Blk w' (w.heap.size + 1) 3 #[.int .i64 x] := by
    subst hw'; exact (blk_at (by simp)).alloc _
  have bx : Blk w' (w.heap.size + 1 + 1) 27 #[.int .i64 xlo, .int .i64 xhi] := by
    subst hw'; exact blk_at (by simp)
  clear hw'
  have hq := showing_seq w.heap.size (w.heap.size + 1 + 1) (w.heap.size + 1) tb toff tcap sb soff scap rb roff rcap v3 T S Sh x xlo xhi h3 hT hS hg hx w' (rT.below hb) (rS.below hb) (rG.below hb) bt bx bs
  have hok : ∀ q ∈ showingL T S Sh x xlo xhi, FracOk q := by
    intro q hq
    obtain ⟨y, h5, rfl⟩ := List.mem_map.1 hq
    exact (show_ok hT.out hS.out hg.out (bends_within hx.out.1 hx.out.2 h5)).1
  refine ⟨_, rfl, hb, ?_⟩
  rcases hF with ⟨rfl, rfl⟩ | ⟨rfl, rfl⟩
  · exact callsIn_wide.1 (foremost_less _ _ _ (fun k => k < w'.heap.size) w' (enters_of Try.func79 (by kernel_rfl) rfl) hq (Lib.hid fun k h => h) (Lib.hid hok))
  · exact callsIn_wide.1 (foremost_more _ _ _ (fun k => k < w'.heap.size) w' (enters_of Try.func79 (by kernel_rfl) rfl) hq (Lib.hid fun k h => h) (Lib.hid hok))
end Go.Proofs.Ytcghafdemklnnaa
