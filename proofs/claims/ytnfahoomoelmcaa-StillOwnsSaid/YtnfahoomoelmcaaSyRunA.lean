/- What a run returns, out of what is drawn by hand. -/
import Derived.Test.YtnfahoomoelmcaaSyAll
import Derived.Test.YtnfahoomoelmcaaSyF2
namespace Go.Proofs.Ytnfahoomoelmcaa
open Go.RowKit Go.Proofs.Try

def outOf (z : List MDrawn × MPot × Option Int) : List MDrawn × MPot × Int := match z.2.2 with
  | none => (z.1, z.2.1, 0)
  | some k => ([], MPot.mk 0 (MSpan.mk 0 0), k)
theorem all_ok2 (fuel : Nat) (c : MCurve) (p : MPot) (l : List Int) (v : Nat → Value) (b : Nat) (A : Option Addr) (cap : Nat) (z : List MDrawn × MPot × Option Int) (W : World) (hv : ∀ i, (v i).oneCell' = true)
    (hh : hand fuel c p l = some z) (hl64 : l.length ≤ 1000000) (h0 : l.length ≤ cap) (s0 : SlAt W A l.length 1 fun i => [.int .i64 (l.getD i default)]) (r0 : InR (fun k => k ≠ b) A l.length) (hL : HeldIn (fun k => k ≠ b) W (Lines c v)) (hB : Blk W b 92 (runCells p v)) :
    Calls prog 54 #[.pointer (some ⟨b, 0, none⟩), .slice A l.length cap] W fun e w' => Kept (fun k => k = b) W w' ∧ ∃ u, e = .returned (.tuple #[u, .agg #[.int .i64 (outOf z).2.1.volume, .int .i64 (outOf z).2.1.alcohol.lo, .int .i64 (outOf z).2.1.alcohol.hi], .int .i64 (outOf z).2.2]) ∧ u.oneCell' = true ∧ HeldIn (fun k => W.heap.size ≤ k) w' (SliceIs 0 ⟨(outOf z).1.length, 3, fun i => dCells ((outOf z).1.getD i default)⟩ fun _ => u) := by
  obtain ⟨xs, q, er⟩ := z
  refine (all_ok fuel c p l v b A cap xs q er W hv hh hl64 h0 s0 r0 hL hB).mono fun e w' hT => ⟨hT.1, ?_⟩
  cases er with
  | none =>
    obtain ⟨u, h1, h2, h3⟩ := hT.2
    exact ⟨u, h1, h2, h3⟩
  | some k => exact ⟨.slice none 0 0, hT.2, rfl, .true fun w => ⟨none, 0, rfl, Nat.le_refl _, SlAt.nil⟩⟩
theorem all_ok2R (fuel : Nat) (c : MCurve) (p : MPot) (l : List Int) (v : Nat → Value) (b : Nat) (A : Option Addr) (cap : Nat) (z : List MDrawn × MPot × Option Int) (W : World) (hv : ∀ i, (v i).oneCell' = true)
    (hh : hand fuel c p l = some z) (hl64 : l.length ≤ 1000000) (h0 : l.length ≤ cap) (s0 : SlAt W A l.length 1 fun i => [.int .i64 (l.getD i default)]) (r0 : InR (fun k => k ≠ b) A l.length) (hL : HeldIn (fun k => k ≠ b) W (Lines c v)) (hB : Blk W b 92 (runCells p v)) :
    Calls prog 54 #[.pointer (some ⟨b, 0, none⟩), .slice A l.length cap] W fun e w' => Kept (fun k => k = b) W w' ∧ ∃ u, e = .returned (.tuple #[u, .agg #[.int .i64 (outOf z).2.1.volume, .int .i64 (outOf z).2.1.alcohol.lo, .int .i64 (outOf z).2.1.alcohol.hi], .int .i64 (outOf z).2.2]) ∧ u.oneCell' = true ∧ GrAt w' 0 (dGQ (outOf z).1) u ∧ ∀ k, u.ownBlock = some k → W.heap.size ≤ k := by
  obtain ⟨xs, q, er⟩ := z
  refine (all_okR fuel c p l v b A cap xs q er W hv hh hl64 h0 s0 r0 hL hB).mono fun e w' hT => ⟨hT.1, ?_⟩
  cases er with
  | none =>
    obtain ⟨u, h1, h2, h3⟩ := hT.2
    exact ⟨u, h1, h2, h3⟩
  | some k => exact ⟨.slice none 0 0, hT.2, rfl, World.ownsRow_nil _ _ _ _, fun k hk => by simp [Value.ownBlock] at hk⟩
end Go.Proofs.Ytnfahoomoelmcaa
