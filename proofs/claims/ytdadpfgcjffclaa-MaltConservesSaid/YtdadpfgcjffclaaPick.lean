/- pick, has; a slice of words of 32 bits, opened. -/
import Derived.Test.YtdadpfgcjffclaaOpen
import Derived.Test.YtdadpfgcjffclaaRefDust
namespace Go.Proofs.Ytdadpfgcjffclaa
open Go.ChangeShapes Go.WideShapes Go.ChangeAt Go.RowKit Go.Deep

/-- a number from one to another one, by a remainder -/
def pickN (lo hi u : Int) : Int := if hi < lo then 0 else lo + u % (hi - lo + 1)
def pickB (lo hi : Int) : Bool := decide (lo ≤ hi)
theorem pick_in {lo hi u : Int} (h : lo ≤ hi) : lo ≤ pickN lo hi u ∧ pickN lo hi u ≤ hi := by
  have e1 := Int.emod_nonneg u (show hi - lo + 1 ≠ 0 by omega)
  have e2 := Int.emod_lt_of_pos u (show 0 < hi - lo + 1 by omega)
  unfold pickN
  rw [if_neg (by omega)]
  omega
theorem pick_none {lo hi u : Int} (h : ¬ lo ≤ hi) : pickN lo hi u = 0 := by
  unfold pickN
  rw [if_pos (by omega)]

set_option maxHeartbeats 2000000 in
theorem pick_any (lo hi u : Int) (w : World) (h1 : -2305843009213693952 ≤ lo ∧ lo ≤ 2305843009213693952) (h2 : -2305843009213693952 ≤ hi ∧ hi ≤ 2305843009213693952) (h3 : 0 ≤ u ∧ u ≤ 4294967295) :
    Calls Try.prog 26 #[.int .i64 lo, .int .i64 hi, .int .u32 u] w fun e w' => e = .returned (.tuple #[.int .i64 (pickN lo hi u), .bool (pickB lo hi)]) ∧ Below w.heap.size w w' := by
  by_cases c : hi < lo
  · have c' : decide (hi < lo) = true := by simpa using c
    have e1 : pickN lo hi u = 0 := pick_none (by omega)
    have e2 : pickB lo hi = false := by simpa [pickB] using c
    rw [e1, e2]
    clear e1 e2 c
    go_enter Try.func26, Try.ntmps26
    go_wp2
    go_ret2
    exact ⟨rfl, Below.refl _ _⟩
  · have c' : decide (hi < lo) = false := by simpa using c
    have e2 : pickB lo hi = true := by simpa [pickB] using c
    have e0 := pick_in (u := u) (show lo ≤ hi by omega)
    have e1 : lo + u % (hi - lo + 1) = pickN lo hi u := by unfold pickN; rw [if_neg c]
    rw [e2]
    have w1 : IntKind.i64.wrap u = u := IntWalk.i64_in _ (by omega)
    have w2 : IntKind.i64.wrap (hi - lo) = hi - lo := IntWalk.i64_in _ (by omega)
    have w3 : IntKind.i64.wrap (hi - lo + 1) = hi - lo + 1 := IntWalk.i64_in _ (by omega)
    have t1 : u.tmod (hi - lo + 1) = u % (hi - lo + 1) := Int.tmod_eq_emod_of_nonneg h3.1
    have n1 : ¬ hi - lo + 1 = 0 := by omega
    have n2 := Int.emod_nonneg u n1
    have n3 := Int.emod_lt_of_pos u (show 0 < hi - lo + 1 by omega)
    generalize pickN lo hi u = v at *
    generalize u % (hi - lo + 1) = r at *
    have w4 : IntKind.i64.wrap r = r := IntWalk.i64_in _ (by omega)
    have w5 : IntKind.i64.wrap (lo + r) = v := by rw [IntWalk.i64_in _ (by omega)]; exact e1
    have w6 : IntKind.i64.wrap v = v := IntWalk.i64_in _ (by omega)
    clear e0 n2 n3
    go_enter Try.func26, Try.ntmps26
    go_wp2
    go_ret2
    exact ⟨rfl, Below.refl _ _⟩

set_option maxHeartbeats 1000000 in
set_option maxRecDepth 100000 in
theorem has_any (lo hi n : Int) (w : World) :
    Calls Try.prog 28 #[.agg #[.int .i64 lo, .int .i64 hi], .int .i64 n] w (SomeBool (lo ≤ n ∧ n ≤ hi) w) := by
  by_cases c1 : lo ≤ n
  · have c1' : decide (lo ≤ n) = true := by simpa using c1
    by_cases c2 : n ≤ hi
    · have c2' : decide (n ≤ hi) = true := by simpa using c2
      go_enter Try.func28, Try.ntmps28
      go_wp2
      go_ret
      exact SomeBool.yes ⟨c1, c2⟩ ((Below.refl _ _).alloc (Nat.le_refl _) _)
    · have c2' : decide (n ≤ hi) = false := by simpa using c2
      go_enter Try.func28, Try.ntmps28
      go_wp2
      go_ret
      exact SomeBool.no (fun h => by omega) ((Below.refl _ _).alloc (Nat.le_refl _) _)
  · have c1' : decide (lo ≤ n) = false := by simpa using c1
    go_enter Try.func28, Try.ntmps28
    go_wp2
    go_ret
    exact SomeBool.no (fun h => by omega) ((Below.refl _ _).alloc (Nat.le_refl _) _)

def WordsAt (w : World) (A : Option Addr) (us : List Int) : Prop := 0 < us.length → ∃ b off, A = some ⟨b, off, none⟩ ∧ b < w.heap.size ∧ ∀ j, j < us.length → w.cell? ⟨b, off + j, none⟩ = some (.int .u32 (us[j]?.getD 0))
theorem WordsAt.below {w w' : World} {A : Option Addr} {us : List Int} (h : WordsAt w A us) (hb : Below w.heap.size w w') : WordsAt w' A us := fun h0 => by
  obtain ⟨b, off, h1, h2, h3⟩ := h h0
  exact ⟨b, off, h1, Nat.lt_of_lt_of_le h2 hb.size, fun j hj => (hb.cell (p := ⟨b, _, none⟩) h2).trans (h3 j hj)⟩

section
variable {H : Type} {enc : TypeId × Value → H} {w : World} {base : Nat} {spare : Nat → Bool} {held : Bool}
set_option maxRecDepth 100000 in
theorem open_u32s {r : Reach} {b0 : Nat} {v : Value} {d : DataW H} {p : List MemPlace} (hv : Value.okWide Try.prog w r b0 48 v) (h : DataW.Trod enc Try.prog w base spare held 48 v d p) (hw : ∀ n ∈ d.weights Try.prog 48, n ≤ reachBytes) :
    ∃ (A : Option Addr) (us : List Int) (c : Nat), v = .slice A us.length c ∧ WordsAt w A us ∧ us.length ≤ 140737488355328 ∧ ∀ u ∈ us, 0 ≤ u ∧ u ≤ 4294967295 := by
  obtain ⟨a0, l0, c0, rfl⟩ := okWide_slice Try.underlying48 hv
  obtain ⟨fuel, hf⟩ := h
  rcases open_ints Try.underlying48 Try.underlying52 (by kernel_rfl) hf with ⟨hcs, _⟩ | ⟨a, len, cap, zs, hcs, _, hl, _, hz, hx, hcell, hwf⟩
  · simp [Value.cells] at hcs
    obtain ⟨rfl, rfl, rfl⟩ := hcs
    exact ⟨none, [], 0, rfl, fun h => absurd h (Nat.lt_irrefl 0), by simp, by simp⟩
  · simp [Value.cells] at hcs
    obtain ⟨rfl, rfl, rfl⟩ := hcs
    have hlz : l0 ≤ zs.length := by rw [hz]; split <;> omega
    have hlen : (zs.take l0).length = l0 := by simp; omega
    have hd : d = .slice (lits .u32 (zs.take l0)) (lits .u32 (zs.drop l0)) := congrArg Prod.fst hx
    have h1 := hw (((lits (H := H) .u32 (zs.take l0)).length + (lits (H := H) .u32 (zs.drop l0)).length) * Try.prog.bytesOf 52) (by rw [hd]; simp [DataW.weights, Try.underlying48])
    rw [show Try.prog.bytesOf 52 = 4 by kernel_rfl] at h1
    simp only [lits, List.length_map, reachBytes] at h1
    refine ⟨some a, zs.take l0, c0, by rw [hlen], fun h0 => ?_, by omega, fun n hn => ?_⟩
    · obtain ⟨b, off, rfl, hc'⟩ := ints_at hcell (by omega)
      refine ⟨b, off, rfl, cell_lt (hc' 0 (by omega)), fun j hj => ?_⟩
      rw [hc' j (by omega), List.getElem?_take]
      have : j < l0 := by omega
      simp [this, List.getD]
    · have h2 := hwf n (List.mem_of_mem_take hn)
      simp only [Lit.wf, Bool.and_eq_true, decide_eq_true_eq] at h2
      have h3 : IntKind.u32.min = 0 := rfl
      have h4 : IntKind.u32.max = 4294967295 := rfl
      omega
end
end Go.Proofs.Ytdadpfgcjffclaa
