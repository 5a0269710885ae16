/- A curve, opened. -/
import Derived.Test.YtnfahoomoelmcaaOpen
import Derived.Test.YtnfahoomoelmcaaSyS
namespace Go.Proofs.Ytnfahoomoelmcaa
open Go.ChangeShapes Go.WideShapes Go.ChangeAt Go.RowKit Go.Deep

section
variable {H : Type} {enc : TypeId × Value → H} {w : World} {base : Nat} {spare : Nat → Bool} {held : Bool}
set_option maxRecDepth 100000 in
theorem open_spans_at {fuel : Nat} {v : Value} {x : DataW H × List MemPlace} (h : DataW.trod enc Try.prog w base spare held fuel 23 [v] = some x) (hw : ∀ n ∈ x.1.weights Try.prog 23, n ≤ reachBytes) :
    ∃ (A : Option Addr) (ps : List MSpan) (c : Nat), v = .slice A ps.length c ∧ ps.length ≤ c ∧ (SlAt w A ps.length 2 fun i => [.int .i64 (ps.getD i default).lo, .int .i64 (ps.getD i default).hi]) ∧ ps.length ≤ 140737488355328 ∧ ∀ j, InI64 (ps.getD j default).lo ∧ InI64 (ps.getD j default).hi := by
  rcases open_slice Try.underlying23 h with ⟨hcs, _⟩ | ⟨a, l0, c0, m, n, D, Pl, hcs, _, hl, _, hmm, hx, hel⟩
  · simp only [List.cons.injEq, and_true] at hcs
    exact ⟨none, [], 0, hcs, Nat.le_refl _, fun h => absurd h (Nat.lt_irrefl 0), by simp, fun j => by simp only [List.getD_nil]; decide⟩
  · simp only [List.cons.injEq, and_true] at hcs
    have hlm : l0 ≤ m := by rw [hmm]; split <;> omega
    have hd : x.1 = .slice ((List.range l0).map D) ((List.range (m - l0)).map fun j => D (l0 + j)) := congrArg Prod.fst hx
    have h1 := hw ((((List.range l0).map D).length + ((List.range (m - l0)).map fun j => D (l0 + j)).length) * Try.prog.bytesOf 27) (by rw [hd]; simp [DataW.weights, Try.underlying23])
    rw [show Try.prog.bytesOf 27 = 16 by kernel_rfl] at h1
    simp only [List.length_map, List.length_range, reachBytes] at h1
    have hC : Try.prog.cellsOf 27 = 2 := by kernel_rfl
    have hI : Try.prog.cellsOf 3 = 1 := by kernel_rfl
    have hrow : ∀ j, j < l0 → ∃ q : MSpan, (w.cell? (a.add (j * 2)) = some (.int .i64 q.lo) ∧ w.cell? (a.add (j * 2 + 1)) = some (.int .i64 q.hi)) ∧ InI64 q.lo ∧ InI64 q.hi := by
      intro j hj
      obtain ⟨cs', hc, htr⟩ := hel j (by omega)
      rw [hC] at hc
      obtain ⟨_, hlen, hat⟩ := World.cells?_some hc
      obtain ⟨y0, y1, n1, _, _, t0, t1⟩ := trod_struct2 Try.underlying27 htr
      match cs', hlen with
      | [k0, k1], _ =>
        simp [hI] at t0 t1
        obtain ⟨i0, e0, _, g0⟩ := DataW.trod_int Try.underlying3 t0
        obtain ⟨i1, e1, _, g1⟩ := DataW.trod_int Try.underlying3 t1
        simp only [List.cons.injEq, and_true] at e0 e1
        subst e0 e1
        refine ⟨⟨i0, i1⟩, ⟨?_, ?_⟩, wf_i64 g0, wf_i64 g1⟩
        · simpa [hC, Go.Deep.add_add] using hat 0 (by omega)
        · simpa [hC, Go.Deep.add_add] using hat 1 (by omega)
    obtain ⟨f, hf⟩ := choose_lt hrow
    refine ⟨some a, (List.range l0).map f, c0, by simpa using hcs, by simpa using hl, fun h0 => ?_, by simp; omega, fun j => ?_⟩
    · simp only [List.length_map, List.length_range] at h0
      have h2 := (hf 0 h0).1.1
      obtain ⟨b, off, spot⟩ := a
      have hspot : spot = none := by simpa [Addr.add] using World.cell?_spot h2
      subst hspot
      refine ⟨b, off, rfl, cell_lt h2, fun i hi j v hj => ?_⟩
      have hi' : i < l0 := by simpa using hi
      have hp' : ((List.range l0).map f).getD i default = f i := by simp [List.getD, hi']
      simp only [hp'] at hj
      obtain ⟨k0, k1⟩ := (hf i hi').1
      rw [Go.WideShapes.add_plain] at k0 k1
      match j, hj with
      | 0, hj =>
        simp only [List.getElem?_cons_zero, Option.some.injEq] at hj
        subst hj
        exact k0
      | 1, hj =>
        simp only [List.getElem?_cons_succ, List.getElem?_cons_zero, Option.some.injEq] at hj
        subst hj
        exact k1
      | j + 2, hj => simp at hj
    · by_cases hj : j < l0
      · have hp' : ((List.range l0).map f).getD j default = f j := by simp [List.getD, hj]
        rw [hp']
        exact (hf j hj).2
      · have hp' : ((List.range l0).map f).getD j default = default := by simp [List.getD, hj]
        rw [hp']
        decide

set_option maxRecDepth 100000 in
theorem open_curve {r : Reach} {b0 : Nat} {v : Value} {d : DataW H} {p : List MemPlace} (hv : Value.okWide Try.prog w r b0 25 v) (h : DataW.Trod enc Try.prog w base spare held 25 v d p) (hw : ∀ n ∈ d.weights Try.prog 25, n ≤ reachBytes) :
    ∃ (A0 : Option Addr) (c0 : Nat) (A1 : Option Addr) (c1 : Nat) (c : MCurve), v = .agg #[.slice A0 c.liquid.length c0, .slice A1 c.vapour.length c1] ∧ c.liquid.length ≤ c0 ∧ (SlAt w A0 c.liquid.length 1 fun i => [.int .i64 (c.liquid.getD i default)]) ∧ c.vapour.length ≤ c1 ∧
      (SlAt w A1 c.vapour.length 2 fun i => [.int .i64 (c.vapour.getD i default).lo, .int .i64 (c.vapour.getD i default).hi]) ∧ (c.liquid.length ≤ 140737488355328 ∧ c.vapour.length ≤ 140737488355328) ∧ (∀ j, InI64 (c.liquid.getD j default)) ∧ ∀ j, InI64 (c.vapour.getD j default).lo ∧ InI64 (c.vapour.getD j default).hi := by
  have h' : ∃ cs, v = .agg cs ∧ cs.size = Try.prog.cellsOf 25 ∧ Row.okWide Try.prog w r b0 25 cs := by
    simp only [Value.okWide, Try.underlying25] at hv
    exact hv
  obtain ⟨cs, rfl, hsz, _⟩ := h'
  rw [show Try.prog.cellsOf 25 = 2 by kernel_rfl] at hsz
  obtain ⟨cs⟩ := cs
  match cs, hsz with
  | [c0, c1], _ =>
    obtain ⟨fuel, hf⟩ := h
    obtain ⟨xs, n, _, hx, hl, hlen, hfld⟩ := DataW.trod_struct Try.underlying25 hf
    match xs, hlen with
    | [y0, y1], _ =>
      have f0 : DataW.trod enc Try.prog w base spare held n 22 [c0] = some y0 := by simpa [Value.cells, show Try.prog.cellsOf 22 = 1 by kernel_rfl] using hfld 0 _ rfl
      have f1 : DataW.trod enc Try.prog w base spare held n 23 [c1] = some y1 := by simpa [Value.cells, show Try.prog.cellsOf 23 = 1 by kernel_rfl] using hfld 1 _ rfl
      have hd : d = .agg [y0.1, y1.1] := by simpa using congrArg Prod.fst hx
      have hwj : ∀ (j : Nat) (t : TypeId) (y : DataW H), [22, 23][j]? = some t → [y0.1, y1.1][j]? = some y → ∀ n ∈ y.weights Try.prog t, n ≤ reachBytes := by
        intro j t y ht hy n hn
        refine hw n ?_
        rw [hd]
        simp only [DataW.weights, Try.underlying25]
        exact DataW.weights_mem_each (ts := [22, 23]) ht hy n hn
      obtain ⟨A, xs, ca, rfl, a1, a2, a3, a4⟩ := open_i64s_at f0 (hwj 0 _ _ rfl rfl)
      obtain ⟨B, ps, cb, rfl, b1, b2, b3, b4⟩ := open_spans_at f1 (hwj 1 _ _ rfl rfl)
      exact ⟨A, ca, B, cb, ⟨xs, ps⟩, rfl, a1, a2, b1, b2, ⟨a3, b3⟩, a4, b4⟩
end
end Go.Proofs.Ytnfahoomoelmcaa
