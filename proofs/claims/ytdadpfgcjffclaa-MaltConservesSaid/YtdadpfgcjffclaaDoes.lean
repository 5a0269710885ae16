/- What each of the doings returns, or that it stops: as doG says. -/
import Derived.Test.YtdadpfgcjffclaaSteep
import Derived.Test.YtdadpfgcjffclaaSprout
import Derived.Test.YtdadpfgcjffclaaKiln
import Derived.Test.YtdadpfgcjffclaaPeat
import Derived.Test.YtdadpfgcjffclaaSieve
import Derived.Test.YtdadpfgcjffclaaWeigh
namespace Go.Proofs.Ytdadpfgcjffclaa
open Go.RowKit Go.Sort

/-- the function behind a kind of step -/
def fnOf (k : Int) : FuncId := if k = 0 then 70 else if k = 1 then 72 else if k = 2 then 74 else if k = 3 then 77 else if k = 4 then 78 else 79
/-- what a doing returns, or that it stops -/
def didEnd : Option Gr → Ending
  | some h => .returned (.agg h.cells)
  | none => .panicked stop

theorem does_any (g : Gr) (k x y : Int) (w : World) (hg : g.Ok) (hs : StepOk k x y) :
    Calls Try.prog (fnOf k) #[.agg g.cells, .agg #[.int .i64 x, .int .i64 y]] w fun e w' => e = didEnd (doG g k x y) ∧ Below w.heap.size w w' := by
  obtain ⟨d1, d2, w1, w2, p1, p2, t1, t2, g1, g2, r1, r2, s1, s2⟩ := g
  obtain ⟨hd, hw, hp, ht, hgg, hr, hss⟩ := hg
  obtain ⟨k0, k5, hx⟩ := hs
  dsimp only at hd hw hp ht hgg hr hss
  have hk : k = 0 ∨ k = 1 ∨ k = 2 ∨ k = 3 ∨ k = 4 ∨ k = 5 := by omega
  rcases hk with rfl | rfl | rfl | rfl | rfl | rfl
  · exact steep_any d1 d2 w1 w2 p1 p2 t1 t2 g1 g2 r1 r2 s1 s2 x y w hd hw hp ht hgg hr hss hx
  · have hx' : SpOk x y 10000 := hx
    by_cases q1 : upQ (x * d1) 10000 ≤ y * d2 / 10000
    · by_cases q2 : upQ ((10000 - y) * d1) 10000 ≤ (10000 - x) * d2 / 10000
      · rw [show doG ⟨d1, d2, w1, w2, p1, p2, t1, t2, g1, g2, r1, r2, s1, s2⟩ 1 x y = _ from if_pos (And.intro q1 q2)]
        exact sprout_ok d1 d2 w1 w2 p1 p2 t1 t2 g1 g2 r1 r2 s1 s2 x y _ _ _ _ w hd hw hp ht hgg hr hss hx' (Lib.hid rfl) (Lib.hid rfl) (Lib.hid rfl) (Lib.hid rfl) q1 q2
      · rw [show doG ⟨d1, d2, w1, w2, p1, p2, t1, t2, g1, g2, r1, r2, s1, s2⟩ 1 x y = none from if_neg (fun (h : _ ∧ _) => q2 h.2)]
        exact sprout_bad2 d1 d2 w1 w2 p1 p2 t1 t2 g1 g2 r1 r2 s1 s2 x y _ _ _ _ w hd hw hp ht hgg hr hss hx' (Lib.hid rfl) (Lib.hid rfl) (Lib.hid rfl) (Lib.hid rfl) q1 (by omega)
    · rw [show doG ⟨d1, d2, w1, w2, p1, p2, t1, t2, g1, g2, r1, r2, s1, s2⟩ 1 x y = none from if_neg (fun (h : _ ∧ _) => q1 h.1)]
      exact sprout_bad1 d1 d2 w1 w2 p1 p2 t1 t2 g1 g2 r1 r2 s1 s2 x y _ _ _ _ w hd hw hp ht hgg hr hss hx' (Lib.hid rfl) (Lib.hid rfl) (Lib.hid rfl) (Lib.hid rfl) (by omega)
  · have hx' : SpOk x y 10000 := hx
    by_cases q1 : upQ (x * d1) 10000 ≤ min (y * d2 / 10000) w2
    · rw [show doG ⟨d1, d2, w1, w2, p1, p2, t1, t2, g1, g2, r1, r2, s1, s2⟩ 2 x y = _ from if_pos q1]
      exact kiln_ok d1 d2 w1 w2 p1 p2 t1 t2 g1 g2 r1 r2 s1 s2 x y _ _ _ _ w hd hw hp ht hgg hr hss hx' (Lib.hid rfl) (Lib.hid rfl) (Lib.hid rfl) (Lib.hid rfl) q1
    · rw [show doG ⟨d1, d2, w1, w2, p1, p2, t1, t2, g1, g2, r1, r2, s1, s2⟩ 2 x y = none from if_neg q1]
      by_cases q2 : upQ (x * d1) 10000 ≤ y * d2 / 10000
      · exact kiln_bad2 d1 d2 w1 w2 p1 p2 t1 t2 g1 g2 r1 r2 s1 s2 x y _ _ w hd hw hp ht hgg hr hss hx' (Lib.hid rfl) (Lib.hid rfl) (by omega) q2
      · exact kiln_bad1 d1 d2 w1 w2 p1 p2 t1 t2 g1 g2 r1 r2 s1 s2 x y _ _ w hd hw hp ht hgg hr hss hx' (Lib.hid rfl) (Lib.hid rfl) (by omega)
  · have hx' : SpOk x y 1048576 := hx
    by_cases q1 : p1 + upQ (x * d1) 1000 ≤ p2 + y * d2 / 1000
    · rw [show doG ⟨d1, d2, w1, w2, p1, p2, t1, t2, g1, g2, r1, r2, s1, s2⟩ 3 x y = _ from if_pos q1]
      exact peat_ok d1 d2 w1 w2 p1 p2 t1 t2 g1 g2 r1 r2 s1 s2 x y _ _ w hd hw hp ht hgg hr hss hx' (Lib.hid rfl) (Lib.hid rfl) q1
    · rw [show doG ⟨d1, d2, w1, w2, p1, p2, t1, t2, g1, g2, r1, r2, s1, s2⟩ 3 x y = none from if_neg q1]
      exact peat_bad d1 d2 w1 w2 p1 p2 t1 t2 g1 g2 r1 r2 s1 s2 x y _ _ w hd hw hp ht hgg hr hss hx' (Lib.hid rfl) (Lib.hid rfl) (by omega)
  · have hx' : SpOk x y 1099511627776 := hx
    by_cases q1 : x ≤ min y d2
    · rw [show doG ⟨d1, d2, w1, w2, p1, p2, t1, t2, g1, g2, r1, r2, s1, s2⟩ 4 x y = _ from if_pos q1]
      exact sieve_ok d1 d2 w1 w2 p1 p2 t1 t2 g1 g2 r1 r2 s1 s2 x y _ _ w hd hw hp ht hgg hr hss hx' (Lib.hid rfl) (Lib.hid rfl) q1
    · rw [show doG ⟨d1, d2, w1, w2, p1, p2, t1, t2, g1, g2, r1, r2, s1, s2⟩ 4 x y = none from if_neg q1]
      exact sieve_bad d1 d2 w1 w2 p1 p2 t1 t2 g1 g2 r1 r2 s1 s2 x y w hd hw hp ht hgg hr hss hx' (by omega)
  · have hx' : SpOk x y 1099511627776 := hx
    by_cases q1 : max d1 (x - w2) ≤ min d2 (y - w1)
    · by_cases q2 : max w1 (x - d2) ≤ min w2 (y - d1)
      · rw [show doG ⟨d1, d2, w1, w2, p1, p2, t1, t2, g1, g2, r1, r2, s1, s2⟩ 5 x y = _ from if_pos (And.intro q1 q2)]
        exact weigh_ok d1 d2 w1 w2 p1 p2 t1 t2 g1 g2 r1 r2 s1 s2 x y _ _ _ _ w hd hw hp ht hgg hr hss hx' (Lib.hid rfl) (Lib.hid rfl) (Lib.hid rfl) (Lib.hid rfl) q1 q2
      · rw [show doG ⟨d1, d2, w1, w2, p1, p2, t1, t2, g1, g2, r1, r2, s1, s2⟩ 5 x y = none from if_neg (fun (h : _ ∧ _) => q2 h.2)]
        exact weigh_bad2 d1 d2 w1 w2 p1 p2 t1 t2 g1 g2 r1 r2 s1 s2 x y _ _ w hd hw hp ht hgg hr hss hx' (Lib.hid rfl) (Lib.hid rfl) q1 (by omega)
    · rw [show doG ⟨d1, d2, w1, w2, p1, p2, t1, t2, g1, g2, r1, r2, s1, s2⟩ 5 x y = none from if_neg (fun (h : _ ∧ _) => q1 h.1)]
      exact weigh_bad1 d1 d2 w1 w2 p1 p2 t1 t2 g1 g2 r1 r2 s1 s2 x y w hd hw hp ht hgg hr hss hx' (by omega)
end Go.Proofs.Ytdadpfgcjffclaa
