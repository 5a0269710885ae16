/- Arguments opened, as the states want them. -/
import Derived.Test.YtlcccomdijdkaaaSyO
import Derived.Test.YtlcccomdijdkaaaProg
import Derived.ProofKit
import Derived.SizedLaws
import Derived.OpenShut
import Derived.Deep.Slices
import Derived.Lib.SmallJoins
namespace Go.Proofs.Ytlcccomdijdkaaa
open Go.ChangeShapes Go.WideShapes Go.ChangeAt Go.RowKit Go.Deep

theorem cell_lt {w : World} {b o : Nat} {v : Value} (h : w.cell? ⟨b, o, none⟩ = some v) : b < w.heap.size := by
  rcases Nat.lt_or_ge b w.heap.size with h1 | h1
  · exact h1
  · simp [World.cell?, h1] at h

section
variable {P : Program} {w : World} {r : Reach} {base : Nat} {t : TypeId} {v : Value}
theorem okInt {k : IntKind} (ht : P.underlying t = some (.int k)) (h : Value.okWide P w r base t v) : ∃ n, v = .int k n ∧ k.min ≤ n ∧ n ≤ k.max := by
  simp only [Value.okWide, ht, Cell.okWide] at h
  cases v <;> simp_all [Cell.ok, IntKind.has]

theorem okAgg {k : IntKind} {n : Nat} {ts : List TypeId} (hs : (∃ fs, P.underlying t = some (.struct fs)) ∨ ∃ a b, P.underlying t = some (.array a b)) (hn : P.cellsOf t = n) (hts : P.cellTypes P.depth t = some ts)
    (hall : ∀ u ∈ ts, P.underlying u = some (TypeDesc.int k)) (h : Value.okWide P w r base t v) : ∃ xs : List Int, xs.length = n ∧ v = .agg (xs.map (Value.int k)).toArray ∧ ∀ x ∈ xs, k.min ≤ x ∧ x ≤ k.max := by
  have h' : ∃ cs, v = .agg cs ∧ cs.size = P.cellsOf t ∧ Row.okWide P w r base t cs := by
    rcases hs with ⟨fs, hs⟩ | ⟨a, b, hs⟩ <;> · simp only [Value.okWide, hs] at h; exact h
  obtain ⟨cs, rfl, hsz, ts', hts', _, hc⟩ := h'
  rw [hts] at hts'
  cases hts'
  have key : ∀ (i : Nat) (v : Value), cs[i]? = some v → ∃ n, v = Value.int k n ∧ k.min ≤ n ∧ n ≤ k.max := by
    intro i v hv
    obtain ⟨u, hu, hok⟩ := hc i v hv
    have hu'' := hall u (List.mem_of_getElem? hu)
    simp only [Cell.okWide, hu''] at hok
    cases v <;> simp_all [Cell.ok, IntKind.has]
  obtain ⟨cs⟩ := cs
  have key' : ∀ v ∈ cs, ∃ n, v = Value.int k n ∧ k.min ≤ n ∧ n ≤ k.max := by
    intro v hv
    obtain ⟨i, hi⟩ := List.mem_iff_getElem?.1 hv
    exact key i v (by simpa using hi)
  have : ∀ cs : List Value, (∀ v ∈ cs, ∃ n, v = Value.int k n ∧ k.min ≤ n ∧ n ≤ k.max) → ∃ xs : List Int, cs = xs.map (Value.int k) ∧ ∀ x ∈ xs, k.min ≤ x ∧ x ≤ k.max := by
    intro cs
    induction cs with
    | nil => exact fun _ => ⟨[], rfl, by simp⟩
    | cons c cs ih =>
      intro hall
      obtain ⟨n, rfl, hn⟩ := hall c (by simp)
      obtain ⟨xs, rfl, hx⟩ := ih (fun v hv => hall v (by simp [hv]))
      exact ⟨n :: xs, rfl, by simpa using ⟨hn, hx⟩⟩
  obtain ⟨xs, rfl, hx⟩ := this cs key'
  exact ⟨xs, by simpa [hn] using hsz, rfl, hx⟩
end

set_option maxRecDepth 100000 in
theorem open_span {w : World} {r : Reach} {base : Nat} {v : Value} (h : Value.okWide Try.prog w r base 23 v) : ∃ a0 a1 : Int, v = .agg #[.int .i64 a0, .int .i64 a1] ∧ (-9223372036854775808 ≤ a0 ∧ a0 ≤ 9223372036854775807) ∧ (-9223372036854775808 ≤ a1 ∧ a1 ≤ 9223372036854775807) := by
  obtain ⟨xs, hn, rfl, hx⟩ := okAgg (k := .i64) (n := 2) (ts := [3, 3]) (.inl ⟨_, Try.underlying23⟩) (by kernel_rfl) (by kernel_rfl) (by intro u hu; simp at hu; subst hu; exact Try.underlying3) h
  match xs, hn with
  | [a0, a1], _ => exact ⟨a0, a1, rfl, hx a0 (by simp), hx a1 (by simp)⟩
section
variable {H : Type} {enc : TypeId × Value → H} {P : Program} {w : World} {base : Nat} {spare : Nat → Bool} {held : Bool}
theorem weightsAll_mem {e : TypeId} {ds : List (DataW H)} {d : DataW H} (hd : d ∈ ds) {n : Nat} (hn : n ∈ d.weights P e) : n ∈ DataW.weightsAll P e ds := by
  induction ds with
  | nil => cases hd
  | cons x ds ih =>
    rw [DataW.weightsAll, List.mem_append]
    rcases List.mem_cons.1 hd with rfl | h
    · exact .inl hn
    · exact .inr (ih h)

theorem wf_i64 {n : Int} (h : (Lit.int .i64 n).wf = true) : -9223372036854775808 ≤ n ∧ n ≤ 9223372036854775807 := by
  simp only [Lit.wf, Bool.and_eq_true, decide_eq_true_eq] at h
  have h1 : IntKind.i64.min = -9223372036854775808 := rfl
  have h2 : IntKind.i64.max = 9223372036854775807 := rfl
  omega

end

section
variable {H : Type} {enc : TypeId × Value → H} {w : World} {base : Nat} {spare : Nat → Bool} {held : Bool}
set_option maxRecDepth 100000 in
theorem open_i64s_at {fuel : Nat} {v : Value} {x : DataW H × List MemPlace} (h : DataW.trod enc Try.prog w base spare held fuel 33 [v] = some x) (hw : ∀ n ∈ x.1.weights Try.prog 33, n ≤ reachBytes) :
    ∃ (A : Option Addr) (xs : List Int) (c : Nat), v = .slice A xs.length c ∧ xs.length ≤ c ∧ (SlAt w A xs.length 1 fun i => [.int .i64 (xs.getD i default)]) ∧ xs.length ≤ 140737488355328 ∧ ∀ j, -9223372036854775808 ≤ xs.getD j default ∧ xs.getD j default ≤ 9223372036854775807 := by
  rcases open_ints Try.underlying33 Try.underlying3 (by kernel_rfl) h with ⟨hcs, _⟩ | ⟨a, len, cap, zs, hcs, _, hl, _, hz, hx, hcell, hwf⟩
  · simp only [List.cons.injEq, and_true] at hcs
    exact ⟨none, [], 0, hcs, Nat.le_refl _, fun h => absurd h (Nat.lt_irrefl 0), by simp, fun j => by simp only [List.getD_nil]; decide⟩
  · simp only [List.cons.injEq, and_true] at hcs
    have hlz : len ≤ zs.length := by rw [hz]; split <;> omega
    have hlen : (zs.take len).length = len := by simp; omega
    have h1 := hw (((lits (H := H) .i64 (zs.take len)).length + (lits (H := H) .i64 (zs.drop len)).length) * Try.prog.bytesOf 3) (by rw [hx]; simp [DataW.weights, Try.underlying33])
    rw [show Try.prog.bytesOf 3 = 8 by kernel_rfl] at h1
    simp only [lits, List.length_map, reachBytes] at h1
    refine ⟨some a, zs.take len, cap, by rw [hlen]; exact hcs, by rw [hlen]; exact hl, fun h0 => ?_, by omega, fun j => ?_⟩
    · obtain ⟨b, off, rfl, hc'⟩ := ints_at hcell (by omega)
      refine ⟨b, off, rfl, cell_lt (hc' 0 (by omega)), fun i hi j v hj => ?_⟩
      cases j with
      | succ j => simp at hj
      | zero =>
        simp only [List.getElem?_cons_zero, Option.some.injEq] at hj
        subst hj
        rw [Nat.mul_one, Nat.add_zero, hc' i (by omega)]
        have : i < len := by omega
        simp [List.getD, List.getElem?_take, this]
    · rw [List.getD]
      cases hj : (zs.take len)[j]? with
      | none => simp only [Option.getD_none]; decide
      | some n =>
        have h2 := hwf n (List.mem_of_mem_take (List.mem_of_getElem? hj))
        simp only [Lit.wf, Bool.and_eq_true, decide_eq_true_eq] at h2
        have h3 : IntKind.i64.min = -9223372036854775808 := rfl
        have h4 : IntKind.i64.max = 9223372036854775807 := rfl
        simp only [Option.getD_some]
        omega
set_option maxRecDepth 100000 in
theorem open_i64s {r : Reach} {b0 : Nat} {v : Value} {d : DataW H} {p : List MemPlace} (hv : Value.okWide Try.prog w r b0 33 v) (h : DataW.Trod enc Try.prog w base spare held 33 v d p) (hw : ∀ n ∈ d.weights Try.prog 33, n ≤ reachBytes) :
    ∃ (A : Option Addr) (xs : List Int) (c : Nat), v = .slice A xs.length c ∧ xs.length ≤ c ∧ (SlAt w A xs.length 1 fun i => [.int .i64 (xs.getD i default)]) ∧ xs.length ≤ 140737488355328 ∧ ∀ j, -9223372036854775808 ≤ xs.getD j default ∧ xs.getD j default ≤ 9223372036854775807 := by
  obtain ⟨a0, l0, c0, rfl⟩ := okWide_slice Try.underlying33 hv
  obtain ⟨fuel, hf⟩ := h
  exact open_i64s_at (v := .slice a0 l0 c0) (x := (d, p)) hf hw
set_option maxRecDepth 100000 in
theorem open_u32s_at {fuel : Nat} {v : Value} {x : DataW H × List MemPlace} (h : DataW.trod enc Try.prog w base spare held fuel 54 [v] = some x) (hw : ∀ n ∈ x.1.weights Try.prog 54, n ≤ reachBytes) :
    ∃ (A : Option Addr) (xs : List Int) (c : Nat), v = .slice A xs.length c ∧ xs.length ≤ c ∧ (SlAt w A xs.length 1 fun i => [.int .u32 (xs.getD i default)]) ∧ xs.length ≤ 140737488355328 ∧ ∀ j, 0 ≤ xs.getD j default ∧ xs.getD j default ≤ 4294967295 := by
  rcases open_ints Try.underlying54 Try.underlying48 (by kernel_rfl) h with ⟨hcs, _⟩ | ⟨a, len, cap, zs, hcs, _, hl, _, hz, hx, hcell, hwf⟩
  · simp only [List.cons.injEq, and_true] at hcs
    exact ⟨none, [], 0, hcs, Nat.le_refl _, fun h => absurd h (Nat.lt_irrefl 0), by simp, fun j => by simp only [List.getD_nil]; decide⟩
  · simp only [List.cons.injEq, and_true] at hcs
    have hlz : len ≤ zs.length := by rw [hz]; split <;> omega
    have hlen : (zs.take len).length = len := by simp; omega
    have h1 := hw (((lits (H := H) .u32 (zs.take len)).length + (lits (H := H) .u32 (zs.drop len)).length) * Try.prog.bytesOf 48) (by rw [hx]; simp [DataW.weights, Try.underlying54])
    rw [show Try.prog.bytesOf 48 = 4 by kernel_rfl] at h1
    simp only [lits, List.length_map, reachBytes] at h1
    refine ⟨some a, zs.take len, cap, by rw [hlen]; exact hcs, by rw [hlen]; exact hl, fun h0 => ?_, by omega, fun j => ?_⟩
    · obtain ⟨b, off, rfl, hc'⟩ := ints_at hcell (by omega)
      refine ⟨b, off, rfl, cell_lt (hc' 0 (by omega)), fun i hi j v hj => ?_⟩
      cases j with
      | succ j => simp at hj
      | zero =>
        simp only [List.getElem?_cons_zero, Option.some.injEq] at hj
        subst hj
        rw [Nat.mul_one, Nat.add_zero, hc' i (by omega)]
        have : i < len := by omega
        simp [List.getD, List.getElem?_take, this]
    · rw [List.getD]
      cases hj : (zs.take len)[j]? with
      | none => simp only [Option.getD_none]; decide
      | some n =>
        have h2 := hwf n (List.mem_of_mem_take (List.mem_of_getElem? hj))
        simp only [Lit.wf, Bool.and_eq_true, decide_eq_true_eq] at h2
        have h3 : IntKind.u32.min = 0 := rfl
        have h4 : IntKind.u32.max = 4294967295 := rfl
        simp only [Option.getD_some]
        omega
set_option maxRecDepth 100000 in
theorem open_u32s {r : Reach} {b0 : Nat} {v : Value} {d : DataW H} {p : List MemPlace} (hv : Value.okWide Try.prog w r b0 54 v) (h : DataW.Trod enc Try.prog w base spare held 54 v d p) (hw : ∀ n ∈ d.weights Try.prog 54, n ≤ reachBytes) :
    ∃ (A : Option Addr) (xs : List Int) (c : Nat), v = .slice A xs.length c ∧ xs.length ≤ c ∧ (SlAt w A xs.length 1 fun i => [.int .u32 (xs.getD i default)]) ∧ xs.length ≤ 140737488355328 ∧ ∀ j, 0 ≤ xs.getD j default ∧ xs.getD j default ≤ 4294967295 := by
  obtain ⟨a0, l0, c0, rfl⟩ := okWide_slice Try.underlying54 hv
  obtain ⟨fuel, hf⟩ := h
  exact open_u32s_at (v := .slice a0 l0 c0) (x := (d, p)) hf hw
end
end Go.Proofs.Ytlcccomdijdkaaa
