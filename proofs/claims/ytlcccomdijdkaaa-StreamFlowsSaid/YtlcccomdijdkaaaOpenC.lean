/- Waters, points and burners, opened. -/
import Derived.Test.YtlcccomdijdkaaaOpen
import Derived.Test.YtlcccomdijdkaaaSyS
namespace Go.Proofs.Ytlcccomdijdkaaa
open Go.ChangeShapes Go.WideShapes Go.ChangeAt Go.RowKit Go.Deep

section
variable {H : Type} {enc : TypeId × Value → H} {w : World} {base : Nat} {spare : Nat → Bool} {held : Bool}
set_option maxRecDepth 100000 in
theorem open_water {r : Reach} {v : Value} (h : Value.okWide Try.prog w r base 25 v) : ∃ a0 a1 a2 a3 : Int, v = .agg #[.int .i64 a0, .int .i64 a1, .int .i64 a2, .int .i64 a3] ∧ InI64 a0 ∧ InI64 a1 ∧ InI64 a2 ∧ InI64 a3 := by
  obtain ⟨xs, hn, rfl, hx⟩ := okAgg (k := .i64) (n := 4) (ts := [3, 3, 3, 3]) (.inl ⟨_, Try.underlying25⟩) (by kernel_rfl) (by kernel_rfl) (by intro u hu; simp at hu; subst hu; exact Try.underlying3) h
  match xs, hn with
  | [a0, a1, a2, a3], _ => exact ⟨a0, a1, a2, a3, rfl, hx a0 (by simp), hx a1 (by simp), hx a2 (by simp), hx a3 (by simp)⟩
set_option maxRecDepth 100000 in
theorem open_point {r : Reach} {v : Value} (h : Value.okWide Try.prog w r base 47 v) : ∃ a0 a1 a2 a3 a4 a5 a6 a7 a8 : Int, v = .agg #[.int .i64 a0, .int .i64 a1, .int .i64 a2, .int .i64 a3, .int .i64 a4, .int .i64 a5, .int .i64 a6, .int .i64 a7, .int .i64 a8] ∧ InI64 a0 ∧ InI64 a1 ∧ InI64 a2 ∧ InI64 a3 ∧ InI64 a4 ∧ InI64 a5 ∧ InI64 a6 ∧ InI64 a7 ∧ InI64 a8 := by
  obtain ⟨xs, hn, rfl, hx⟩ := okAgg (k := .i64) (n := 9) (ts := [3, 3, 3, 3, 3, 3, 3, 3, 3]) (.inl ⟨_, Try.underlying47⟩) (by kernel_rfl) (by kernel_rfl) (by intro u hu; simp at hu; subst hu; exact Try.underlying3) h
  match xs, hn with
  | [a0, a1, a2, a3, a4, a5, a6, a7, a8], _ => exact ⟨a0, a1, a2, a3, a4, a5, a6, a7, a8, rfl, hx a0 (by simp), hx a1 (by simp), hx a2 (by simp), hx a3 (by simp), hx a4 (by simp), hx a5 (by simp), hx a6 (by simp), hx a7 (by simp), hx a8 (by simp)⟩
theorem int_row {fuel : Nat} {k : Value} {x : DataW H × List MemPlace} (h : DataW.trod enc Try.prog w base spare held fuel 3 [k] = some x) : ∃ i : Int, k = .int .i64 i ∧ InI64 i := by
  obtain ⟨i0, e0, _, g0⟩ := DataW.trod_int Try.underlying3 h
  simp only [List.cons.injEq, and_true] at e0
  exact ⟨i0, e0, wf_i64 g0⟩
theorem span_row {fuel : Nat} {k0 k1 : Value} {x : DataW H × List MemPlace} (h : DataW.trod enc Try.prog w base spare held fuel 23 [k0, k1] = some x) : ∃ q : MSpan, k0 = .int .i64 q.lo ∧ k1 = .int .i64 q.hi ∧ InI64 q.lo ∧ InI64 q.hi := by
  obtain ⟨y0, y1, n1, _, _, t0, t1⟩ := trod_struct2 Try.underlying23 h
  have hI : Try.prog.cellsOf 3 = 1 := by kernel_rfl
  simp [hI] at t0 t1
  obtain ⟨i0, rfl, g0⟩ := int_row t0
  obtain ⟨i1, rfl, g1⟩ := int_row t1
  exact ⟨⟨i0, i1⟩, rfl, rfl, g0, g1⟩
theorem point_row {fuel : Nat} {k0 k1 k2 k3 k4 k5 k6 k7 k8 : Value} {x : DataW H × List MemPlace} (h : DataW.trod enc Try.prog w base spare held fuel 47 [k0, k1, k2, k3, k4, k5, k6, k7, k8] = some x) :
    ∃ q : MPoint, k0 = .int .i64 q.kind ∧ k1 = .int .i64 q.flow.lo ∧ k2 = .int .i64 q.flow.hi ∧ k3 = .int .i64 q.warm.lo ∧ k4 = .int .i64 q.warm.hi ∧ k5 = .int .i64 q.heat.lo ∧ k6 = .int .i64 q.heat.hi ∧ k7 = .int .i64 q.share.lo ∧ k8 = .int .i64 q.share.hi ∧
      InI64 q.kind ∧ InI64 q.flow.lo ∧ InI64 q.flow.hi ∧ InI64 q.warm.lo ∧ InI64 q.warm.hi ∧ InI64 q.heat.lo ∧ InI64 q.heat.hi ∧ InI64 q.share.lo ∧ InI64 q.share.hi := by
  have hI : Try.prog.cellsOf 3 = 1 := by kernel_rfl
  have hS : Try.prog.cellsOf 23 = 2 := by kernel_rfl
  obtain ⟨xs, n, _, hx, hl, hlen, hf⟩ := DataW.trod_struct Try.underlying47 h
  match xs, hlen with
  | [y0, y1, y2, y3, y4], _ =>
    have f0 := hf 0 _ rfl
    have f1 := hf 1 _ rfl
    have f2 := hf 2 _ rfl
    have f3 := hf 3 _ rfl
    have f4 := hf 4 _ rfl
    simp [hI, hS] at f0 f1 f2 f3 f4
    obtain ⟨i, rfl, g⟩ := int_row f0
    obtain ⟨q1, rfl, rfl, g1, g2⟩ := span_row f1
    obtain ⟨q2, rfl, rfl, g3, g4⟩ := span_row f2
    obtain ⟨q3, rfl, rfl, g5, g6⟩ := span_row f3
    obtain ⟨q4, rfl, rfl, g7, g8⟩ := span_row f4
    exact ⟨⟨i, q1, q2, q3, q4⟩, rfl, rfl, rfl, rfl, rfl, rfl, rfl, rfl, rfl, g, g1, g2, g3, g4, g5, g6, g7, g8⟩
theorem burner_row {fuel : Nat} {k0 k1 k2 k3 : Value} {x : DataW H × List MemPlace} (h : DataW.trod enc Try.prog w base spare held fuel 67 [k0, k1, k2, k3] = some x) :
    ∃ q : MBurner, k0 = .int .i64 q.ready ∧ k1 = .int .i64 q.due ∧ k2 = .int .i64 q.hours ∧ k3 = .int .i64 q.heat ∧ InI64 q.ready ∧ InI64 q.due ∧ InI64 q.hours ∧ InI64 q.heat := by
  have hI : Try.prog.cellsOf 3 = 1 := by kernel_rfl
  obtain ⟨xs, n, _, hx, hl, hlen, hf⟩ := DataW.trod_struct Try.underlying67 h
  match xs, hlen with
  | [y0, y1, y2, y3], _ =>
    have f0 := hf 0 _ rfl
    have f1 := hf 1 _ rfl
    have f2 := hf 2 _ rfl
    have f3 := hf 3 _ rfl
    simp [hI] at f0 f1 f2 f3
    obtain ⟨i, rfl, g⟩ := int_row f0
    obtain ⟨i1, rfl, g1⟩ := int_row f1
    obtain ⟨i2, rfl, g2⟩ := int_row f2
    obtain ⟨i3, rfl, g3⟩ := int_row f3
    exact ⟨⟨i, i1, i2, i3⟩, rfl, rfl, rfl, rfl, g, g1, g2, g3⟩
set_option maxRecDepth 100000 in
theorem open_points_at {fuel : Nat} {v : Value} {x : DataW H × List MemPlace} (h : DataW.trod enc Try.prog w base spare held fuel 26 [v] = some x) (hw : ∀ n ∈ x.1.weights Try.prog 26, n ≤ reachBytes) :
    ∃ (A : Option Addr) (ps : List MPoint) (c : Nat), v = .slice A ps.length c ∧ ps.length ≤ c ∧ (SlAt w A ps.length 9 fun i => [.int .i64 (ps.getD i default).kind, .int .i64 (ps.getD i default).flow.lo, .int .i64 (ps.getD i default).flow.hi, .int .i64 (ps.getD i default).warm.lo, .int .i64 (ps.getD i default).warm.hi, .int .i64 (ps.getD i default).heat.lo, .int .i64 (ps.getD i default).heat.hi, .int .i64 (ps.getD i default).share.lo, .int .i64 (ps.getD i default).share.hi]) ∧ ps.length ≤ 140737488355328 ∧ ∀ j, InI64 (ps.getD j default).kind ∧ InI64 (ps.getD j default).flow.lo ∧ InI64 (ps.getD j default).flow.hi ∧ InI64 (ps.getD j default).warm.lo ∧ InI64 (ps.getD j default).warm.hi ∧ InI64 (ps.getD j default).heat.lo ∧ InI64 (ps.getD j default).heat.hi ∧ InI64 (ps.getD j default).share.lo ∧ InI64 (ps.getD j default).share.hi := by
  rcases open_slice Try.underlying26 h with ⟨hcs, _⟩ | ⟨a, l0, c0, m, n, D, Pl, hcs, _, hl, _, hmm, hx, hel⟩
  · simp only [List.cons.injEq, and_true] at hcs
    exact ⟨none, [], 0, hcs, Nat.le_refl _, fun h => absurd h (Nat.lt_irrefl 0), by simp, fun j => by simp only [List.getD_nil]; decide⟩
  · simp only [List.cons.injEq, and_true] at hcs
    have hlm : l0 ≤ m := by rw [hmm]; split <;> omega
    have hd : x.1 = .slice ((List.range l0).map D) ((List.range (m - l0)).map fun j => D (l0 + j)) := congrArg Prod.fst hx
    have h1 := hw ((((List.range l0).map D).length + ((List.range (m - l0)).map fun j => D (l0 + j)).length) * Try.prog.bytesOf 47) (by rw [hd]; simp [DataW.weights, Try.underlying26])
    rw [show Try.prog.bytesOf 47 = 72 by kernel_rfl] at h1
    simp only [List.length_map, List.length_range, reachBytes] at h1
    have hC : Try.prog.cellsOf 47 = 9 := by kernel_rfl
    have hrow : ∀ j, j < l0 → ∃ q : MPoint, (w.cell? (a.add (j * 9)) = some (.int .i64 q.kind) ∧ w.cell? (a.add (j * 9 + 1)) = some (.int .i64 q.flow.lo) ∧ w.cell? (a.add (j * 9 + 2)) = some (.int .i64 q.flow.hi) ∧ w.cell? (a.add (j * 9 + 3)) = some (.int .i64 q.warm.lo) ∧ w.cell? (a.add (j * 9 + 4)) = some (.int .i64 q.warm.hi) ∧ w.cell? (a.add (j * 9 + 5)) = some (.int .i64 q.heat.lo) ∧ w.cell? (a.add (j * 9 + 6)) = some (.int .i64 q.heat.hi) ∧ w.cell? (a.add (j * 9 + 7)) = some (.int .i64 q.share.lo) ∧ w.cell? (a.add (j * 9 + 8)) = some (.int .i64 q.share.hi)) ∧ InI64 q.kind ∧ InI64 q.flow.lo ∧ InI64 q.flow.hi ∧ InI64 q.warm.lo ∧ InI64 q.warm.hi ∧ InI64 q.heat.lo ∧ InI64 q.heat.hi ∧ InI64 q.share.lo ∧ InI64 q.share.hi := by
      intro j hj
      obtain ⟨cs', hc, htr⟩ := hel j (by omega)
      rw [hC] at hc
      obtain ⟨_, hlen, hat⟩ := World.cells?_some hc
      match cs', hlen with
      | [k0, k1, k2, k3, k4, k5, k6, k7, k8], _ =>
        obtain ⟨q, e0, e1, e2, e3, e4, e5, e6, e7, e8, gq⟩ := point_row htr
        subst e0 e1 e2 e3 e4 e5 e6 e7 e8
        refine ⟨q, ⟨?_, ?_, ?_, ?_, ?_, ?_, ?_, ?_, ?_⟩, gq⟩
        · simpa [hC, Go.Deep.add_add] using hat 0 (by omega)
        · simpa [hC, Go.Deep.add_add] using hat 1 (by omega)
        · simpa [hC, Go.Deep.add_add] using hat 2 (by omega)
        · simpa [hC, Go.Deep.add_add] using hat 3 (by omega)
        · simpa [hC, Go.Deep.add_add] using hat 4 (by omega)
        · simpa [hC, Go.Deep.add_add] using hat 5 (by omega)
        · simpa [hC, Go.Deep.add_add] using hat 6 (by omega)
        · simpa [hC, Go.Deep.add_add] using hat 7 (by omega)
        · simpa [hC, Go.Deep.add_add] using hat 8 (by omega)
    obtain ⟨f, hf⟩ := choose_lt hrow
    refine ⟨some a, (List.range l0).map f, c0, by simpa using hcs, by simpa using hl, fun h0 => ?_, by simp; omega, fun j => ?_⟩
    · simp only [List.length_map, List.length_range] at h0
      have h2 := (hf 0 h0).1.1
      obtain ⟨b, off, spot⟩ := a
      have hspot : spot = none := by simpa [Addr.add] using World.cell?_spot h2
      subst hspot
      refine ⟨b, off, rfl, cell_lt h2, fun i hi j v hj => ?_⟩
      have hi' : i < l0 := by simpa using hi
      have hp' : ((List.range l0).map f).getD i default = f i := by simp [List.getD, hi']
      simp only [hp'] at hj
      obtain ⟨k0, k1, k2, k3, k4, k5, k6, k7, k8⟩ := (hf i hi').1
      rw [Go.WideShapes.add_plain] at k0 k1 k2 k3 k4 k5 k6 k7 k8
      match j, hj with
      | 0, hj =>
        simp only [List.getElem?_cons_zero, Option.some.injEq] at hj
        subst hj
        exact k0
      | 1, hj =>
        simp only [List.getElem?_cons_succ, List.getElem?_cons_zero, Option.some.injEq] at hj
        subst hj
        exact k1
      | 2, hj =>
        simp only [List.getElem?_cons_succ, List.getElem?_cons_zero, Option.some.injEq] at hj
        subst hj
        exact k2
      | 3, hj =>
        simp only [List.getElem?_cons_succ, List.getElem?_cons_zero, Option.some.injEq] at hj
        subst hj
        exact k3
      | 4, hj =>
        simp only [List.getElem?_cons_succ, List.getElem?_cons_zero, Option.some.injEq] at hj
        subst hj
        exact k4
      | 5, hj =>
        simp only [List.getElem?_cons_succ, List.getElem?_cons_zero, Option.some.injEq] at hj
        subst hj
        exact k5
      | 6, hj =>
        simp only [List.getElem?_cons_succ, List.getElem?_cons_zero, Option.some.injEq] at hj
        subst hj
        exact k6
      | 7, hj =>
        simp only [List.getElem?_cons_succ, List.getElem?_cons_zero, Option.some.injEq] at hj
        subst hj
        exact k7
      | 8, hj =>
        simp only [List.getElem?_cons_succ, List.getElem?_cons_zero, Option.some.injEq] at hj
        subst hj
        exact k8
      | j + 9, hj => simp at hj
    · by_cases hj : j < l0
      · have hp' : ((List.range l0).map f).getD j default = f j := by simp [List.getD, hj]
        rw [hp']
        exact (hf j hj).2
      · have hp' : ((List.range l0).map f).getD j default = default := by simp [List.getD, hj]
        rw [hp']
        decide
set_option maxRecDepth 100000 in
theorem open_points {r : Reach} {b0 : Nat} {v : Value} {d : DataW H} {p : List MemPlace} (hv : Value.okWide Try.prog w r b0 26 v) (h : DataW.Trod enc Try.prog w base spare held 26 v d p) (hw : ∀ n ∈ d.weights Try.prog 26, n ≤ reachBytes) :
    ∃ (A : Option Addr) (ps : List MPoint) (c : Nat), v = .slice A ps.length c ∧ ps.length ≤ c ∧ (SlAt w A ps.length 9 fun i => [.int .i64 (ps.getD i default).kind, .int .i64 (ps.getD i default).flow.lo, .int .i64 (ps.getD i default).flow.hi, .int .i64 (ps.getD i default).warm.lo, .int .i64 (ps.getD i default).warm.hi, .int .i64 (ps.getD i default).heat.lo, .int .i64 (ps.getD i default).heat.hi, .int .i64 (ps.getD i default).share.lo, .int .i64 (ps.getD i default).share.hi]) ∧ ps.length ≤ 140737488355328 ∧ ∀ j, InI64 (ps.getD j default).kind ∧ InI64 (ps.getD j default).flow.lo ∧ InI64 (ps.getD j default).flow.hi ∧ InI64 (ps.getD j default).warm.lo ∧ InI64 (ps.getD j default).warm.hi ∧ InI64 (ps.getD j default).heat.lo ∧ InI64 (ps.getD j default).heat.hi ∧ InI64 (ps.getD j default).share.lo ∧ InI64 (ps.getD j default).share.hi := by
  obtain ⟨a0, l0, c0, rfl⟩ := okWide_slice Try.underlying26 hv
  obtain ⟨fuel, hf⟩ := h
  exact open_points_at (v := .slice a0 l0 c0) (x := (d, p)) hf hw
set_option maxRecDepth 100000 in
theorem open_burners_at {fuel : Nat} {v : Value} {x : DataW H × List MemPlace} (h : DataW.trod enc Try.prog w base spare held fuel 42 [v] = some x) (hw : ∀ n ∈ x.1.weights Try.prog 42, n ≤ reachBytes) :
    ∃ (A : Option Addr) (ps : List MBurner) (c : Nat), v = .slice A ps.length c ∧ ps.length ≤ c ∧ (SlAt w A ps.length 4 fun i => [.int .i64 (ps.getD i default).ready, .int .i64 (ps.getD i default).due, .int .i64 (ps.getD i default).hours, .int .i64 (ps.getD i default).heat]) ∧ ps.length ≤ 140737488355328 ∧ ∀ j, InI64 (ps.getD j default).ready ∧ InI64 (ps.getD j default).due ∧ InI64 (ps.getD j default).hours ∧ InI64 (ps.getD j default).heat := by
  rcases open_slice Try.underlying42 h with ⟨hcs, _⟩ | ⟨a, l0, c0, m, n, D, Pl, hcs, _, hl, _, hmm, hx, hel⟩
  · simp only [List.cons.injEq, and_true] at hcs
    exact ⟨none, [], 0, hcs, Nat.le_refl _, fun h => absurd h (Nat.lt_irrefl 0), by simp, fun j => by simp only [List.getD_nil]; decide⟩
  · simp only [List.cons.injEq, and_true] at hcs
    have hlm : l0 ≤ m := by rw [hmm]; split <;> omega
    have hd : x.1 = .slice ((List.range l0).map D) ((List.range (m - l0)).map fun j => D (l0 + j)) := congrArg Prod.fst hx
    have h1 := hw ((((List.range l0).map D).length + ((List.range (m - l0)).map fun j => D (l0 + j)).length) * Try.prog.bytesOf 67) (by rw [hd]; simp [DataW.weights, Try.underlying42])
    rw [show Try.prog.bytesOf 67 = 32 by kernel_rfl] at h1
    simp only [List.length_map, List.length_range, reachBytes] at h1
    have hC : Try.prog.cellsOf 67 = 4 := by kernel_rfl
    have hrow : ∀ j, j < l0 → ∃ q : MBurner, (w.cell? (a.add (j * 4)) = some (.int .i64 q.ready) ∧ w.cell? (a.add (j * 4 + 1)) = some (.int .i64 q.due) ∧ w.cell? (a.add (j * 4 + 2)) = some (.int .i64 q.hours) ∧ w.cell? (a.add (j * 4 + 3)) = some (.int .i64 q.heat)) ∧ InI64 q.ready ∧ InI64 q.due ∧ InI64 q.hours ∧ InI64 q.heat := by
      intro j hj
      obtain ⟨cs', hc, htr⟩ := hel j (by omega)
      rw [hC] at hc
      obtain ⟨_, hlen, hat⟩ := World.cells?_some hc
      match cs', hlen with
      | [k0, k1, k2, k3], _ =>
        obtain ⟨q, e0, e1, e2, e3, gq⟩ := burner_row htr
        subst e0 e1 e2 e3
        refine ⟨q, ⟨?_, ?_, ?_, ?_⟩, gq⟩
        · simpa [hC, Go.Deep.add_add] using hat 0 (by omega)
        · simpa [hC, Go.Deep.add_add] using hat 1 (by omega)
        · simpa [hC, Go.Deep.add_add] using hat 2 (by omega)
        · simpa [hC, Go.Deep.add_add] using hat 3 (by omega)
    obtain ⟨f, hf⟩ := choose_lt hrow
    refine ⟨some a, (List.range l0).map f, c0, by simpa using hcs, by simpa using hl, fun h0 => ?_, by simp; omega, fun j => ?_⟩
    · simp only [List.length_map, List.length_range] at h0
      have h2 := (hf 0 h0).1.1
      obtain ⟨b, off, spot⟩ := a
      have hspot : spot = none := by simpa [Addr.add] using World.cell?_spot h2
      subst hspot
      refine ⟨b, off, rfl, cell_lt h2, fun i hi j v hj => ?_⟩
      have hi' : i < l0 := by simpa using hi
      have hp' : ((List.range l0).map f).getD i default = f i := by simp [List.getD, hi']
      simp only [hp'] at hj
      obtain ⟨k0, k1, k2, k3⟩ := (hf i hi').1
      rw [Go.WideShapes.add_plain] at k0 k1 k2 k3
      match j, hj with
      | 0, hj =>
        simp only [List.getElem?_cons_zero, Option.some.injEq] at hj
        subst hj
        exact k0
      | 1, hj =>
        simp only [List.getElem?_cons_succ, List.getElem?_cons_zero, Option.some.injEq] at hj
        subst hj
        exact k1
      | 2, hj =>
        simp only [List.getElem?_cons_succ, List.getElem?_cons_zero, Option.some.injEq] at hj
        subst hj
        exact k2
      | 3, hj =>
        simp only [List.getElem?_cons_succ, List.getElem?_cons_zero, Option.some.injEq] at hj
        subst hj
        exact k3
      | j + 4, hj => simp at hj
    · by_cases hj : j < l0
      · have hp' : ((List.range l0).map f).getD j default = f j := by simp [List.getD, hj]
        rw [hp']
        exact (hf j hj).2
      · have hp' : ((List.range l0).map f).getD j default = default := by simp [List.getD, hj]
        rw [hp']
        decide
set_option maxRecDepth 100000 in
theorem open_burners {r : Reach} {b0 : Nat} {v : Value} {d : DataW H} {p : List MemPlace} (hv : Value.okWide Try.prog w r b0 42 v) (h : DataW.Trod enc Try.prog w base spare held 42 v d p) (hw : ∀ n ∈ d.weights Try.prog 42, n ≤ reachBytes) :
    ∃ (A : Option Addr) (ps : List MBurner) (c : Nat), v = .slice A ps.length c ∧ ps.length ≤ c ∧ (SlAt w A ps.length 4 fun i => [.int .i64 (ps.getD i default).ready, .int .i64 (ps.getD i default).due, .int .i64 (ps.getD i default).hours, .int .i64 (ps.getD i default).heat]) ∧ ps.length ≤ 140737488355328 ∧ ∀ j, InI64 (ps.getD j default).ready ∧ InI64 (ps.getD j default).due ∧ InI64 (ps.getD j default).hours ∧ InI64 (ps.getD j default).heat := by
  obtain ⟨a0, l0, c0, rfl⟩ := okWide_slice Try.underlying42 hv
  obtain ⟨fuel, hf⟩ := h
  exact open_burners_at (v := .slice a0 l0 c0) (x := (d, p)) hf hw
end
end Go.Proofs.Ytlcccomdijdkaaa
