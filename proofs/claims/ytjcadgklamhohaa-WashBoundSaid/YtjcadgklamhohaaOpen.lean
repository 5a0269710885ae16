/- Arguments opened: ints, structs of ints by value, slices of spans and of numbers, yeasts. -/
import Derived.Test.YtjcadgklamhohaaYeast
import Derived.ProofKit
import Derived.SizedLaws
import Derived.OpenShut
import Derived.Deep.Slices
import Derived.Lib.SmallJoins
namespace Go.Proofs.Ytjcadgklamhohaa
open Go.ChangeShapes Go.WideShapes Go.ChangeAt Go.RowKit Go.Deep

theorem cell_lt {w : World} {b o : Nat} {v : Value} (h : w.cell? ⟨b, o, none⟩ = some v) : b < w.heap.size := by
  rcases Nat.lt_or_ge b w.heap.size with h1 | h1
  · exact h1
  · simp [World.cell?, h1] at h

section
variable {P : Program} {w : World} {r : Reach} {base : Nat} {t : TypeId} {v : Value}
theorem okInt {k : IntKind} (ht : P.underlying t = some (.int k)) (h : Value.okWide P w r base t v) : ∃ n, v = .int k n ∧ k.min ≤ n ∧ n ≤ k.max := by
  simp only [Value.okWide, ht, Cell.okWide] at h
  cases v <;> simp_all [Cell.ok, IntKind.has]

theorem okAgg {k : IntKind} {n : Nat} {ts : List TypeId} (hs : (∃ fs, P.underlying t = some (.struct fs)) ∨ ∃ a b, P.underlying t = some (.array a b)) (hn : P.cellsOf t = n) (hts : P.cellTypes P.depth t = some ts)
    (hall : ∀ u ∈ ts, P.underlying u = some (TypeDesc.int k)) (h : Value.okWide P w r base t v) : ∃ xs : List Int, xs.length = n ∧ v = .agg (xs.map (Value.int k)).toArray ∧ ∀ x ∈ xs, k.min ≤ x ∧ x ≤ k.max := by
  have h' : ∃ cs, v = .agg cs ∧ cs.size = P.cellsOf t ∧ Row.okWide P w r base t cs := by
    rcases hs with ⟨fs, hs⟩ | ⟨a, b, hs⟩ <;> · simp only [Value.okWide, hs] at h; exact h
  obtain ⟨cs, rfl, hsz, ts', hts', _, hc⟩ := h'
  rw [hts] at hts'
  cases hts'
  have key : ∀ (i : Nat) (v : Value), cs[i]? = some v → ∃ n, v = Value.int k n ∧ k.min ≤ n ∧ n ≤ k.max := by
    intro i v hv
    obtain ⟨u, hu, hok⟩ := hc i v hv
    have hu'' := hall u (List.mem_of_getElem? hu)
    simp only [Cell.okWide, hu''] at hok
    cases v <;> simp_all [Cell.ok, IntKind.has]
  obtain ⟨cs⟩ := cs
  have key' : ∀ v ∈ cs, ∃ n, v = Value.int k n ∧ k.min ≤ n ∧ n ≤ k.max := by
    intro v hv
    obtain ⟨i, hi⟩ := List.mem_iff_getElem?.1 hv
    exact key i v (by simpa using hi)
  have : ∀ cs : List Value, (∀ v ∈ cs, ∃ n, v = Value.int k n ∧ k.min ≤ n ∧ n ≤ k.max) → ∃ xs : List Int, cs = xs.map (Value.int k) ∧ ∀ x ∈ xs, k.min ≤ x ∧ x ≤ k.max := by
    intro cs
    induction cs with
    | nil => exact fun _ => ⟨[], rfl, by simp⟩
    | cons c cs ih =>
      intro hall
      obtain ⟨n, rfl, hn⟩ := hall c (by simp)
      obtain ⟨xs, rfl, hx⟩ := ih (fun v hv => hall v (by simp [hv]))
      exact ⟨n :: xs, rfl, by simpa using ⟨hn, hx⟩⟩
  obtain ⟨xs, rfl, hx⟩ := this cs key'
  exact ⟨xs, by simpa [hn] using hsz, rfl, hx⟩
end

set_option maxRecDepth 100000 in
theorem open_span {w : World} {r : Reach} {base : Nat} {v : Value} (h : Value.okWide Try.prog w r base 23 v) : ∃ a0 a1 : Int, v = .agg #[.int .i64 a0, .int .i64 a1] ∧ (-9223372036854775808 ≤ a0 ∧ a0 ≤ 9223372036854775807) ∧ (-9223372036854775808 ≤ a1 ∧ a1 ≤ 9223372036854775807) := by
  obtain ⟨xs, hn, rfl, hx⟩ := okAgg (k := .i64) (n := 2) (ts := [3, 3]) (.inl ⟨_, Try.underlying23⟩) (by kernel_rfl) (by kernel_rfl) (by intro u hu; simp at hu; subst hu; exact Try.underlying3) h
  match xs, hn with
  | [a0, a1], _ => exact ⟨a0, a1, rfl, hx a0 (by simp), hx a1 (by simp)⟩
set_option maxRecDepth 100000 in
theorem open_mash {w : World} {r : Reach} {base : Nat} {v : Value} (h : Value.okWide Try.prog w r base 25 v) : ∃ a0 a1 a2 a3 a4 a5 : Int, v = .agg #[.int .i64 a0, .int .i64 a1, .int .i64 a2, .int .i64 a3, .int .i64 a4, .int .i64 a5] ∧ (-9223372036854775808 ≤ a0 ∧ a0 ≤ 9223372036854775807) ∧ (-9223372036854775808 ≤ a1 ∧ a1 ≤ 9223372036854775807) ∧ (-9223372036854775808 ≤ a2 ∧ a2 ≤ 9223372036854775807) ∧ (-9223372036854775808 ≤ a3 ∧ a3 ≤ 9223372036854775807) ∧ (-9223372036854775808 ≤ a4 ∧ a4 ≤ 9223372036854775807) ∧ (-9223372036854775808 ≤ a5 ∧ a5 ≤ 9223372036854775807) := by
  obtain ⟨xs, hn, rfl, hx⟩ := okAgg (k := .i64) (n := 6) (ts := [3, 3, 3, 3, 3, 3]) (.inl ⟨_, Try.underlying25⟩) (by kernel_rfl) (by kernel_rfl) (by intro u hu; simp at hu; subst hu; exact Try.underlying3) h
  match xs, hn with
  | [a0, a1, a2, a3, a4, a5], _ => exact ⟨a0, a1, a2, a3, a4, a5, rfl, hx a0 (by simp), hx a1 (by simp), hx a2 (by simp), hx a3 (by simp), hx a4 (by simp), hx a5 (by simp)⟩
set_option maxRecDepth 100000 in
theorem open_vat {w : World} {r : Reach} {base : Nat} {v : Value} (h : Value.okWide Try.prog w r base 38 v) : ∃ a0 a1 a2 a3 a4 a5 a6 a7 a8 a9 a10 a11 a12 : Int, v = .agg #[.int .i64 a0, .int .i64 a1, .int .i64 a2, .int .i64 a3, .int .i64 a4, .int .i64 a5, .int .i64 a6, .int .i64 a7, .int .i64 a8, .int .i64 a9, .int .i64 a10, .int .i64 a11, .int .i64 a12] ∧ (-9223372036854775808 ≤ a0 ∧ a0 ≤ 9223372036854775807) ∧ (-9223372036854775808 ≤ a1 ∧ a1 ≤ 9223372036854775807) ∧ (-9223372036854775808 ≤ a2 ∧ a2 ≤ 9223372036854775807) ∧ (-9223372036854775808 ≤ a3 ∧ a3 ≤ 9223372036854775807) ∧ (-9223372036854775808 ≤ a4 ∧ a4 ≤ 9223372036854775807) ∧ (-9223372036854775808 ≤ a5 ∧ a5 ≤ 9223372036854775807) ∧ (-9223372036854775808 ≤ a6 ∧ a6 ≤ 9223372036854775807) ∧ (-9223372036854775808 ≤ a7 ∧ a7 ≤ 9223372036854775807) ∧ (-9223372036854775808 ≤ a8 ∧ a8 ≤ 9223372036854775807) ∧ (-9223372036854775808 ≤ a9 ∧ a9 ≤ 9223372036854775807) ∧ (-9223372036854775808 ≤ a10 ∧ a10 ≤ 9223372036854775807) ∧ (-9223372036854775808 ≤ a11 ∧ a11 ≤ 9223372036854775807) ∧ (-9223372036854775808 ≤ a12 ∧ a12 ≤ 9223372036854775807) := by
  obtain ⟨xs, hn, rfl, hx⟩ := okAgg (k := .i64) (n := 13) (ts := [3, 3, 3, 3, 3, 3, 3, 3, 3, 3, 3, 3, 3]) (.inl ⟨_, Try.underlying38⟩) (by kernel_rfl) (by kernel_rfl) (by intro u hu; simp at hu; subst hu; exact Try.underlying3) h
  match xs, hn with
  | [a0, a1, a2, a3, a4, a5, a6, a7, a8, a9, a10, a11, a12], _ => exact ⟨a0, a1, a2, a3, a4, a5, a6, a7, a8, a9, a10, a11, a12, rfl, hx a0 (by simp), hx a1 (by simp), hx a2 (by simp), hx a3 (by simp), hx a4 (by simp), hx a5 (by simp), hx a6 (by simp), hx a7 (by simp), hx a8 (by simp), hx a9 (by simp), hx a10 (by simp), hx a11 (by simp), hx a12 (by simp)⟩
section
variable {H : Type} {enc : TypeId × Value → H} {P : Program} {w : World} {base : Nat} {spare : Nat → Bool} {held : Bool}
theorem weightsAll_mem {e : TypeId} {ds : List (DataW H)} {d : DataW H} (hd : d ∈ ds) {n : Nat} (hn : n ∈ d.weights P e) : n ∈ DataW.weightsAll P e ds := by
  induction ds with
  | nil => cases hd
  | cons x ds ih =>
    rw [DataW.weightsAll, List.mem_append]
    rcases List.mem_cons.1 hd with rfl | h
    · exact .inl hn
    · exact .inr (ih h)

theorem wf_i64 {n : Int} (h : (Lit.int .i64 n).wf = true) : -9223372036854775808 ≤ n ∧ n ≤ 9223372036854775807 := by
  simp only [Lit.wf, Bool.and_eq_true, decide_eq_true_eq] at h
  have h1 : IntKind.i64.min = -9223372036854775808 := rfl
  have h2 : IntKind.i64.max = 9223372036854775807 := rfl
  omega

end

section
variable {H : Type} {enc : TypeId × Value → H} {w : World} {base : Nat} {spare : Nat → Bool} {held : Bool}
set_option maxRecDepth 100000 in
theorem open_spans {r : Reach} {b0 : Nat} {v : Value} {d : DataW H} {p : List MemPlace} (hv : Value.okWide Try.prog w r b0 34 v) (h : DataW.Trod enc Try.prog w base spare held 34 v d p) (hw : ∀ n ∈ d.weights Try.prog 34, n ≤ reachBytes) :
    ∃ (A : Option Addr) (ps : List (Int × Int)) (c : Nat), v = .slice A ps.length c ∧ SpansAt w A ps ∧ ps.length ≤ 140737488355328 ∧ ps.length ≤ c ∧ (A = none → c = 0) ∧ ∀ q ∈ ps, (-9223372036854775808 ≤ q.1 ∧ q.1 ≤ 9223372036854775807) ∧ (-9223372036854775808 ≤ q.2 ∧ q.2 ≤ 9223372036854775807) := by
  obtain ⟨a0, l0, c0, rfl⟩ := okWide_slice Try.underlying34 hv
  obtain ⟨fuel, hf⟩ := h
  rcases open_slice Try.underlying34 hf with ⟨hcs, _⟩ | ⟨a, len, cap, m, n, D, Pl, hcs, _, hl, _, hmm, hx, hel⟩
  · simp [Value.cells] at hcs
    obtain ⟨rfl, rfl, rfl⟩ := hcs
    exact ⟨none, [], 0, rfl, fun h => absurd h (Nat.lt_irrefl 0), by simp, by simp, fun _ => rfl, by simp⟩
  · simp [Value.cells] at hcs
    obtain ⟨rfl, rfl, rfl⟩ := hcs
    have hlm : l0 ≤ m := by rw [hmm]; split <;> omega
    have hd : d = .slice ((List.range l0).map D) ((List.range (m - l0)).map fun j => D (l0 + j)) := congrArg Prod.fst hx
    have h1 := hw ((((List.range l0).map D).length + ((List.range (m - l0)).map fun j => D (l0 + j)).length) * Try.prog.bytesOf 23) (by rw [hd]; simp [DataW.weights, Try.underlying34])
    rw [show Try.prog.bytesOf 23 = 16 by kernel_rfl] at h1
    simp only [List.length_map, List.length_range, reachBytes] at h1
    have hC : Try.prog.cellsOf 23 = 2 := by kernel_rfl
    have hI : Try.prog.cellsOf 3 = 1 := by kernel_rfl
    have hrow : ∀ j, j < l0 → ∃ q : Int × Int, (w.cell? (a.add (j * 2)) = some (.int .i64 q.1) ∧ w.cell? (a.add (j * 2 + 1)) = some (.int .i64 q.2)) ∧ (-9223372036854775808 ≤ q.1 ∧ q.1 ≤ 9223372036854775807) ∧ (-9223372036854775808 ≤ q.2 ∧ q.2 ≤ 9223372036854775807) := by
      intro j hj
      obtain ⟨cs', hc, htr⟩ := hel j (by omega)
      rw [hC] at hc
      obtain ⟨_, hlen, hat⟩ := World.cells?_some hc
      obtain ⟨y0, y1, n1, _, _, t0, t1⟩ := trod_struct2 Try.underlying23 htr
      match cs', hlen with
      | [k0, k1], _ =>
        simp [hI] at t0 t1
        obtain ⟨i0, e0, _, g0⟩ := DataW.trod_int Try.underlying3 t0
        obtain ⟨i1, e1, _, g1⟩ := DataW.trod_int Try.underlying3 t1
        simp only [List.cons.injEq, and_true] at e0 e1
        subst e0 e1
        refine ⟨⟨i0, i1⟩, ⟨?_, ?_⟩, wf_i64 g0, wf_i64 g1⟩
        · simpa [hC, Go.Deep.add_add] using hat 0 (by omega)
        · simpa [hC, Go.Deep.add_add] using hat 1 (by omega)
    obtain ⟨f, hf⟩ := choose_lt hrow
    refine ⟨some a, (List.range l0).map f, c0, by simp, fun h0 => ?_, by simp; omega, by simp; omega, (fun h => by cases h), fun r hr => ?_⟩
    · simp only [List.length_map, List.length_range] at h0
      have h2 := (hf 0 h0).1.1
      obtain ⟨b, off, spot⟩ := a
      have hspot : spot = none := by simpa [Addr.add] using World.cell?_spot h2
      subst hspot
      refine ⟨b, off, rfl, cell_lt h2, fun i hi => ?_⟩
      have hi' : i < l0 := by simpa using hi
      have hp' : ((List.range l0).map f)[i]?.getD (0, 0) = f i := by simp [hi']
      rw [hp']
      obtain ⟨k0, k1⟩ := (hf i hi').1
      rw [Go.WideShapes.add_plain] at k0 k1
      exact ⟨k0, by simpa [Nat.add_assoc] using k1⟩
    · obtain ⟨j, hj, rfl⟩ := List.mem_map.1 hr
      exact (hf j (List.mem_range.1 hj)).2
end
end Go.Proofs.Ytjcadgklamhohaa
