/- A slice of words of 32 bits, opened. -/
import Derived.Test.YtjcadgklamhohaaOpen
namespace Go.Proofs.Ytjcadgklamhohaa
open Go.ChangeShapes Go.WideShapes Go.ChangeAt Go.RowKit Go.Deep

def WordsAt (w : World) (A : Option Addr) (us : List Int) : Prop := 0 < us.length → ∃ b off, A = some ⟨b, off, none⟩ ∧ b < w.heap.size ∧ ∀ j, j < us.length → w.cell? ⟨b, off + j, none⟩ = some (.int .u32 (us[j]?.getD 0))
theorem WordsAt.below {w w' : World} {A : Option Addr} {us : List Int} (h : WordsAt w A us) (hb : Below w.heap.size w w') : WordsAt w' A us := fun h0 => by
  obtain ⟨b, off, h1, h2, h3⟩ := h h0
  exact ⟨b, off, h1, Nat.lt_of_lt_of_le h2 hb.size, fun j hj => (hb.cell (p := ⟨b, _, none⟩) h2).trans (h3 j hj)⟩

section
variable {H : Type} {enc : TypeId × Value → H} {w : World} {base : Nat} {spare : Nat → Bool} {held : Bool}
set_option maxRecDepth 100000 in
theorem open_u32s {r : Reach} {b0 : Nat} {v : Value} {d : DataW H} {p : List MemPlace} (hv : Value.okWide Try.prog w r b0 60 v) (h : DataW.Trod enc Try.prog w base spare held 60 v d p) (hw : ∀ n ∈ d.weights Try.prog 60, n ≤ reachBytes) :
    ∃ (A : Option Addr) (us : List Int) (c : Nat), v = .slice A us.length c ∧ WordsAt w A us ∧ us.length ≤ 140737488355328 ∧ ∀ u ∈ us, 0 ≤ u ∧ u ≤ 4294967295 := by
  obtain ⟨a0, l0, c0, rfl⟩ := okWide_slice Try.underlying60 hv
  obtain ⟨fuel, hf⟩ := h
  rcases open_ints Try.underlying60 Try.underlying63 (by kernel_rfl) hf with ⟨hcs, _⟩ | ⟨a, len, cap, zs, hcs, _, hl, _, hz, hx, hcell, hwf⟩
  · simp [Value.cells] at hcs
    obtain ⟨rfl, rfl, rfl⟩ := hcs
    exact ⟨none, [], 0, rfl, fun h => absurd h (Nat.lt_irrefl 0), by simp, by simp⟩
  · simp [Value.cells] at hcs
    obtain ⟨rfl, rfl, rfl⟩ := hcs
    have hlz : l0 ≤ zs.length := by rw [hz]; split <;> omega
    have hlen : (zs.take l0).length = l0 := by simp; omega
    have hd : d = .slice (lits .u32 (zs.take l0)) (lits .u32 (zs.drop l0)) := congrArg Prod.fst hx
    have h1 := hw (((lits (H := H) .u32 (zs.take l0)).length + (lits (H := H) .u32 (zs.drop l0)).length) * Try.prog.bytesOf 63) (by rw [hd]; simp [DataW.weights, Try.underlying60])
    rw [show Try.prog.bytesOf 63 = 4 by kernel_rfl] at h1
    simp only [lits, List.length_map, reachBytes] at h1
    refine ⟨some a, zs.take l0, c0, by rw [hlen], fun h0 => ?_, by omega, fun n hn => ?_⟩
    · obtain ⟨b, off, rfl, hc'⟩ := ints_at hcell (by omega)
      refine ⟨b, off, rfl, cell_lt (hc' 0 (by omega)), fun j hj => ?_⟩
      rw [hc' j (by omega), List.getElem?_take]
      have : j < l0 := by omega
      simp [this, List.getD]
    · have h2 := hwf n (List.mem_of_mem_take hn)
      simp only [Lit.wf, Bool.and_eq_true, decide_eq_true_eq] at h2
      have h3 : IntKind.u32.min = 0 := rfl
      have h4 : IntKind.u32.max = 4294967295 := rfl
      omega
end
end Go.Proofs.Ytjcadgklamhohaa
