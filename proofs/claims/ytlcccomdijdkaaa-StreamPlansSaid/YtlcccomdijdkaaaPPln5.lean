import Derived.Test.YtlcccomdijdkaaaPPln2
import Derived.Test.YtlcccomdijdkaaaPPln4
import Derived.Test.YtlcccomdijdkaaaPPln3
namespace Go.Proofs.Ytlcccomdijdkaaa
open Go.ChangeShapes Go.WideShapes Go.ChangeAt Go.RowKit Go.Deep

section
variable {H : Type} {enc : TypeId × Value → H} {w : World} {base : Nat} {spare : Nat → Bool} {held : Bool}
set_option maxRecDepth 100000 in
theorem open_water {r : Reach} {v : Value} (h : Value.okWide Try.prog w r base 25 v) : ∃ a0 a1 a2 a3 : Int, v = .agg #[.int .i64 a0, .int .i64 a1, .int .i64 a2, .int .i64 a3] ∧ InI64 a0 ∧ InI64 a1 ∧ InI64 a2 ∧ InI64 a3 := by
  obtain ⟨xs, hn, rfl, hx⟩ := okAgg (k := .i64) (n := 4) (ts := [3, 3, 3, 3]) (.inl ⟨_, Try.underlying25⟩) (by kernel_rfl) (by kernel_rfl) (by intro u hu; simp at hu; subst hu; exact Try.underlying3) h
  match xs, hn with
  | [a0, a1, a2, a3], _ => exact ⟨a0, a1, a2, a3, rfl, hx a0 (by simp), hx a1 (by simp), hx a2 (by simp), hx a3 (by simp)⟩
set_option maxRecDepth 100000 in
theorem open_point {r : Reach} {v : Value} (h : Value.okWide Try.prog w r base 47 v) : ∃ a0 a1 a2 a3 a4 a5 a6 a7 a8 : Int, v = .agg #[.int .i64 a0, .int .i64 a1, .int .i64 a2, .int .i64 a3, .int .i64 a4, .int .i64 a5, .int .i64 a6, .int .i64 a7, .int .i64 a8] ∧ InI64 a0 ∧ InI64 a1 ∧ InI64 a2 ∧ InI64 a3 ∧ InI64 a4 ∧ InI64 a5 ∧ InI64 a6 ∧ InI64 a7 ∧ InI64 a8 := by
  obtain ⟨xs, hn, rfl, hx⟩ := okAgg (k := .i64) (n := 9) (ts := [3, 3, 3, 3, 3, 3, 3, 3, 3]) (.inl ⟨_, Try.underlying47⟩) (by kernel_rfl) (by kernel_rfl) (by intro u hu; simp at hu; subst hu; exact Try.underlying3) h
  match xs, hn with
  | [a0, a1, a2, a3, a4, a5, a6, a7, a8], _ => exact ⟨a0, a1, a2, a3, a4, a5, a6, a7, a8, rfl, hx a0 (by simp), hx a1 (by simp), hx a2 (by simp), hx a3 (by simp), hx a4 (by simp), hx a5 (by simp), hx a6 (by simp), hx a7 (by simp), hx a8 (by simp)⟩
theorem int_row {fuel : Nat} {k : Value} {x : DataW H × List MemPlace} (h : DataW.trod enc Try.prog w base spare held fuel 3 [k] = some x) : ∃ i : Int, k = .int .i64 i ∧ InI64 i := by
  obtain ⟨i0, e0, _, g0⟩ := DataW.trod_int Try.underlying3 h
  simp only [List.cons.injEq, and_true] at e0
  exact ⟨i0, e0, wf_i64 g0⟩
theorem span_row {fuel : Nat} {k0 k1 : Value} {x : DataW H × List MemPlace} (h : DataW.trod enc Try.prog w base spare held fuel 23 [k0, k1] = some x) : ∃ q : MSpan, k0 = .int .i64 q.lo ∧ k1 = .int .i64 q.hi ∧ InI64 q.lo ∧ InI64 q.hi := by
  obtain ⟨y0, y1, n1, _, _, t0, t1⟩ := trod_struct2 Try.underlying23 h
  have hI : Try.prog.cellsOf 3 = 1 := by kernel_rfl
  simp [hI] at t0 t1
  obtain ⟨i0, rfl, g0⟩ := int_row t0
  obtain ⟨i1, rfl, g1⟩ := int_row t1
  exact ⟨⟨i0, i1⟩, rfl, rfl, g0, g1⟩
theorem point_row {fuel : Nat} {k0 k1 k2 k3 k4 k5 k6 k7 k8 : Value} {x : DataW H × List MemPlace} (h : DataW.trod enc Try.prog w base spare held fuel 47 [k0, k1, k2, k3, k4, k5, k6, k7, k8] = some x) :
    ∃ q : MPoint, k0 = .int .i64 q.kind ∧ k1 = .int .i64 q.flow.lo ∧ k2 = .int .i64 q.flow.hi ∧ k3 = .int .i64 q.warm.lo ∧ k4 = .int .i64 q.warm.hi ∧ k5 = .int .i64 q.heat.lo ∧ k6 = .int .i64 q.heat.hi ∧ k7 = .int .i64 q.share.lo ∧ k8 = .int .i64 q.share.hi ∧
      InI64 q.kind ∧ InI64 q.flow.lo ∧ InI64 q.flow.hi ∧ InI64 q.warm.lo ∧ InI64 q.warm.hi ∧ InI64 q.heat.lo ∧ InI64 q.heat.hi ∧ InI64 q.share.lo ∧ InI64 q.share.hi := by
  have hI : Try.prog.cellsOf 3 = 1 := by kernel_rfl
  have hS : Try.prog.cellsOf 23 = 2 := by kernel_rfl
  obtain ⟨xs, n, _, hx, hl, hlen, hf⟩ := DataW.trod_struct Try.underlying47 h
  match xs, hlen with
  | [y0, y1, y2, y3, y4], _ =>
    have f0 := hf 0 _ rfl
    have f1 := hf 1 _ rfl
    have f2 := hf 2 _ rfl
    have f3 := hf 3 _ rfl
    have f4 := hf 4 _ rfl
    simp [hI, hS] at f0 f1 f2 f3 f4
    obtain ⟨i, rfl, g⟩ := int_row f0
    obtain ⟨q1, rfl, rfl, g1, g2⟩ := span_row f1
    obtain ⟨q2, rfl, rfl, g3, g4⟩ := span_row f2
    obtain ⟨q3, rfl, rfl, g5, g6⟩ := span_row f3
    obtain ⟨q4, rfl, rfl, g7, g8⟩ := span_row f4
    exact ⟨⟨i, q1, q2, q3, q4⟩, rfl, rfl, rfl, rfl, rfl, rfl, rfl, rfl, rfl, g, g1, g2, g3, g4, g5, g6, g7, g8⟩
theorem burner_row {fuel : Nat} {k0 k1 k2 k3 : Value} {x : DataW H × List MemPlace} (h : DataW.trod enc Try.prog w base spare held fuel 67 [k0, k1, k2, k3] = some x) :
    ∃ q : MBurner, k0 = .int .i64 q.ready ∧ k1 = .int .i64 q.due ∧ k2 = .int .i64 q.hours ∧ k3 = .int .i64 q.heat ∧ InI64 q.ready ∧ InI64 q.due ∧ InI64 q.hours ∧ InI64 q.heat := by
  have hI : Try.prog.cellsOf 3 = 1 := by kernel_rfl
  obtain ⟨xs, n, _, hx, hl, hlen, hf⟩ := DataW.trod_struct Try.underlying67 h
  match xs, hlen with
  | [y0, y1, y2, y3], _ =>
    have f0 := hf 0 _ rfl
    have f1 := hf 1 _ rfl
    have f2 := hf 2 _ rfl
    have f3 := hf 3 _ rfl
    simp [hI] at f0 f1 f2 f3
    obtain ⟨i, rfl, g⟩ := int_row f0
    obtain ⟨i1, rfl, g1⟩ := int_row f1
    obtain ⟨i2, rfl, g2⟩ := int_row f2
    obtain ⟨i3, rfl, g3⟩ := int_row f3
    exact ⟨⟨i, i1, i2, i3⟩, rfl, rfl, rfl, rfl, g, g1, g2, g3⟩
set_option maxRecDepth 100000 in
theorem open_points_at {fuel : Nat} {v : Value} {x : DataW H × List MemPlace} (h : DataW.trod enc Try.prog w base spare held fuel 26 [v] = some x) (hw : ∀ n ∈ x.1.weights Try.prog 26, n ≤ reachBytes) :
    ∃ (A : Option Addr) (ps : List MPoint) (c : Nat), v = .slice A ps.length c ∧ ps.length ≤ c ∧ (SlAt w A ps.length 9 fun i => [.int .i64 (ps.getD i default).kind, .int .i64 (ps.getD i default).flow.lo, .int .i64 (ps.getD i default).flow.hi, .int .i64 (ps.getD i default).warm.lo, .int .i64 (ps.getD i default).warm.hi, .int .i64 (ps.getD i default).heat.lo, .int .i64 (ps.getD i default).heat.hi, .int .i64 (ps.getD i default).share.lo, .int .i64 (ps.getD i default).share.hi]) ∧ ps.length ≤ 140737488355328 ∧ ∀ j, InI64 (ps.getD j default).kind ∧ InI64 (ps.getD j default).flow.lo ∧ InI64 (ps.getD j default).flow.hi ∧ InI64 (ps.getD j default).warm.lo ∧ InI64 (ps.getD j default).warm.hi ∧ InI64 (ps.getD j default).heat.lo ∧ InI64 (ps.getD j default).heat.hi ∧ InI64 (ps.getD j default).share.lo ∧ InI64 (ps.getD j default).share.hi := by
  rcases open_slice Try.underlying26 h with ⟨hcs, _⟩ | ⟨a, l0, c0, m, n, D, Pl, hcs, _, hl, _, hmm, hx, hel⟩
  · simp only [List.cons.injEq, and_true] at hcs
    exact ⟨none, [], 0, hcs, Nat.le_refl _, fun h => absurd h (Nat.lt_irrefl 0), by simp, fun j => by simp only [List.getD_nil]; decide⟩
  · simp only [List.cons.injEq, and_true] at hcs
    have hlm : l0 ≤ m := by rw [hmm]; split <;> omega
    have hd : x.1 = .slice ((List.range l0).map D) ((List.range (m - l0)).map fun j => D (l0 + j)) := congrArg Prod.fst hx
    have h1 := hw ((((List.range l0).map D).length + ((List.range (m - l0)).map fun j => D (l0 + j)).length) * Try.prog.bytesOf 47) (by rw [hd]; simp [DataW.weights, Try.underlying26])
    rw [show Try.prog.bytesOf 47 = 72 by kernel_rfl] at h1
    simp only [List.length_map, List.length_range, reachBytes] at h1
    have hC : Try.prog.cellsOf 47 = 9 := by kernel_rfl
    have hrow : ∀ j, j < l0 → ∃ q : MPoint, (w.cell? (a.add (j * 9)) = some (.int .i64 q.kind) ∧ w.cell? (a.add (j * 9 + 1)) = some (.int .i64 q.flow.lo) ∧ w.cell? (a.add (j * 9 + 2)) = some (.int .i64 q.flow.hi) ∧ w.cell? (a.add (j * 9 + 3)) = some (.int .i64 q.warm.lo) ∧ w.cell? (a.add (j * 9 + 4)) = some (.int .i64 q.warm.hi) ∧ w.cell? (a.add (j * 9 + 5)) = some (.int .i64 q.heat.lo) ∧ w.cell? (a.add (j * 9 + 6)) = some (.int .i64 q.heat.hi) ∧ w.cell? (a.add (j * 9 + 7)) = some (.int .i64 q.share.lo) ∧ w.cell? (a.add (j * 9 + 8)) = some (.int .i64 q.share.hi)) ∧ InI64 q.kind ∧ InI64 q.flow.lo ∧ InI64 q.flow.hi ∧ InI64 q.warm.lo ∧ InI64 q.warm.hi ∧ InI64 q.heat.lo ∧ InI64 q.heat.hi ∧ InI64 q.share.lo ∧ InI64 q.share.hi := by
      intro j hj
      obtain ⟨cs', hc, htr⟩ := hel j (by omega)
      rw [hC] at hc
      obtain ⟨_, hlen, hat⟩ := World.cells?_some hc
      match cs', hlen with
      | [k0, k1, k2, k3, k4, k5, k6, k7, k8], _ =>
        obtain ⟨q, e0, e1, e2, e3, e4, e5, e6, e7, e8, gq⟩ := point_row htr
        subst e0 e1 e2 e3 e4 e5 e6 e7 e8
        refine ⟨q, ⟨?_, ?_, ?_, ?_, ?_, ?_, ?_, ?_, ?_⟩, gq⟩
        · simpa [hC, Go.Deep.add_add] using hat 0 (by omega)
        · simpa [hC, Go.Deep.add_add] using hat 1 (by omega)
        · simpa [hC, Go.Deep.add_add] using hat 2 (by omega)
        · simpa [hC, Go.Deep.add_add] using hat 3 (by omega)
        · simpa [hC, Go.Deep.add_add] using hat 4 (by omega)
        · simpa [hC, Go.Deep.add_add] using hat 5 (by omega)
        · simpa [hC, Go.Deep.add_add] using hat 6 (by omega)
        · simpa [hC, Go.Deep.add_add] using hat 7 (by omega)
        · simpa [hC, Go.Deep.add_add] using hat 8 (by omega)
    obtain ⟨f, hf⟩ := choose_lt hrow
    refine ⟨some a, (List.range l0).map f, c0, by simpa using hcs, by simpa using hl, fun h0 => ?_, by simp; omega, fun j => ?_⟩
    · simp only [List.length_map, List.length_range] at h0
      have h2 := (hf 0 h0).1.1
      obtain ⟨b, off, spot⟩ := a
      have hspot : spot = none := by simpa [Addr.add] using World.cell?_spot h2
      subst hspot
      refine ⟨b, off, rfl, cell_lt h2, fun i hi j v hj => ?_⟩
      have hi' : i < l0 := by simpa using hi
      have hp' : ((List.range l0).map f).getD i default = f i := by simp [List.getD, hi']
      simp only [hp'] at hj
      obtain ⟨k0, k1, k2, k3, k4, k5, k6, k7, k8⟩ := (hf i hi').1
      rw [Go.WideShapes.add_plain] at k0 k1 k2 k3 k4 k5 k6 k7 k8
      match j, hj with
      | 0, hj =>
        simp only [List.getElem?_cons_zero, Option.some.injEq] at hj
        subst hj
        exact k0
      | 1, hj =>
        simp only [List.getElem?_cons_succ, List.getElem?_cons_zero, Option.some.injEq] at hj
        subst hj
        exact k1
      | 2, hj =>
        simp only [List.getElem?_cons_succ, List.getElem?_cons_zero, Option.some.injEq] at hj
        subst hj
        exact k2
      | 3, hj =>
        simp only [List.getElem?_cons_succ, List.getElem?_cons_zero, Option.some.injEq] at hj
        subst hj
        exact k3
      | 4, hj =>
        simp only [List.getElem?_cons_succ, List.getElem?_cons_zero, Option.some.injEq] at hj
        subst hj
        exact k4
      | 5, hj =>
        simp only [List.getElem?_cons_succ, List.getElem?_cons_zero, Option.some.injEq] at hj
        subst hj
        exact k5
      | 6, hj =>
        simp only [List.getElem?_cons_succ, List.getElem?_cons_zero, Option.some.injEq] at hj
        subst hj
        exact k6
      | 7, hj =>
        simp only [List.getElem?_cons_succ, List.getElem?_cons_zero, Option.some.injEq] at hj
        subst hj
        exact k7
      | 8, hj =>
        simp only [List.getElem?_cons_succ, List.getElem?_cons_zero, Option.some.injEq] at hj
        subst hj
        exact k8
      | j + 9, hj => simp at hj
    · by_cases hj : j < l0
      · have hp' : ((List.range l0).map f).getD j default = f j := by simp [List.getD, hj]
        rw [hp']
        exact (hf j hj).2
      · have hp' : ((List.range l0).map f).getD j default = default := by simp [List.getD, hj]
        rw [hp']
        decide
set_option maxRecDepth 100000 in
theorem open_points {r : Reach} {b0 : Nat} {v : Value} {d : DataW H} {p : List MemPlace} (hv : Value.okWide Try.prog w r b0 26 v) (h : DataW.Trod enc Try.prog w base spare held 26 v d p) (hw : ∀ n ∈ d.weights Try.prog 26, n ≤ reachBytes) :
    ∃ (A : Option Addr) (ps : List MPoint) (c : Nat), v = .slice A ps.length c ∧ ps.length ≤ c ∧ (SlAt w A ps.length 9 fun i => [.int .i64 (ps.getD i default).kind, .int .i64 (ps.getD i default).flow.lo, .int .i64 (ps.getD i default).flow.hi, .int .i64 (ps.getD i default).warm.lo, .int .i64 (ps.getD i default).warm.hi, .int .i64 (ps.getD i default).heat.lo, .int .i64 (ps.getD i default).heat.hi, .int .i64 (ps.getD i default).share.lo, .int .i64 (ps.getD i default).share.hi]) ∧ ps.length ≤ 140737488355328 ∧ ∀ j, InI64 (ps.getD j default).kind ∧ InI64 (ps.getD j default).flow.lo ∧ InI64 (ps.getD j default).flow.hi ∧ InI64 (ps.getD j default).warm.lo ∧ InI64 (ps.getD j default).warm.hi ∧ InI64 (ps.getD j default).heat.lo ∧ InI64 (ps.getD j default).heat.hi ∧ InI64 (ps.getD j default).share.lo ∧ InI64 (ps.getD j default).share.hi := by
  obtain ⟨a0, l0, c0, rfl⟩ := okWide_slice Try.underlying26 hv
  obtain ⟨fuel, hf⟩ := h
  exact open_points_at (v := .slice a0 l0 c0) (x := (d, p)) hf hw
set_option maxRecDepth 100000 in
theorem open_burners_at {fuel : Nat} {v : Value} {x : DataW H × List MemPlace} (h : DataW.trod enc Try.prog w base spare held fuel 42 [v] = some x) (hw : ∀ n ∈ x.1.weights Try.prog 42, n ≤ reachBytes) :
    ∃ (A : Option Addr) (ps : List MBurner) (c : Nat), v = .slice A ps.length c ∧ ps.length ≤ c ∧ (SlAt w A ps.length 4 fun i => [.int .i64 (ps.getD i default).ready, .int .i64 (ps.getD i default).due, .int .i64 (ps.getD i default).hours, .int .i64 (ps.getD i default).heat]) ∧ ps.length ≤ 140737488355328 ∧ ∀ j, InI64 (ps.getD j default).ready ∧ InI64 (ps.getD j default).due ∧ InI64 (ps.getD j default).hours ∧ InI64 (ps.getD j default).heat := by
  rcases open_slice Try.underlying42 h with ⟨hcs, _⟩ | ⟨a, l0, c0, m, n, D, Pl, hcs, _, hl, _, hmm, hx, hel⟩
  · simp only [List.cons.injEq, and_true] at hcs
    exact ⟨none, [], 0, hcs, Nat.le_refl _, fun h => absurd h (Nat.lt_irrefl 0), by simp, fun j => by simp only [List.getD_nil]; decide⟩
  · simp only [List.cons.injEq, and_true] at hcs
    have hlm : l0 ≤ m := by rw [hmm]; split <;> omega
    have hd : x.1 = .slice ((List.range l0).map D) ((List.range (m - l0)).map fun j => D (l0 + j)) := congrArg Prod.fst hx
    have h1 := hw ((((List.range l0).map D).length + ((List.range (m - l0)).map fun j => D (l0 + j)).length) * Try.prog.bytesOf 67) (by rw [hd]; simp [DataW.weights, Try.underlying42])
    rw [show Try.prog.bytesOf 67 = 32 by kernel_rfl] at h1
    simp only [List.length_map, List.length_range, reachBytes] at h1
    have hC : Try.prog.cellsOf 67 = 4 := by kernel_rfl
    have hrow : ∀ j, j < l0 → ∃ q : MBurner, (w.cell? (a.add (j * 4)) = some (.int .i64 q.ready) ∧ w.cell? (a.add (j * 4 + 1)) = some (.int .i64 q.due) ∧ w.cell? (a.add (j * 4 + 2)) = some (.int .i64 q.hours) ∧ w.cell? (a.add (j * 4 + 3)) = some (.int .i64 q.heat)) ∧ InI64 q.ready ∧ InI64 q.due ∧ InI64 q.hours ∧ InI64 q.heat := by
      intro j hj
      obtain ⟨cs', hc, htr⟩ := hel j (by omega)
      rw [hC] at hc
      obtain ⟨_, hlen, hat⟩ := World.cells?_some hc
      match cs', hlen with
      | [k0, k1, k2, k3], _ =>
        obtain ⟨q, e0, e1, e2, e3, gq⟩ := burner_row htr
        subst e0 e1 e2 e3
        refine ⟨q, ⟨?_, ?_, ?_, ?_⟩, gq⟩
        · simpa [hC, Go.Deep.add_add] using hat 0 (by omega)
        · simpa [hC, Go.Deep.add_add] using hat 1 (by omega)
        · simpa [hC, Go.Deep.add_add] using hat 2 (by omega)
        · simpa [hC, Go.Deep.add_add] using hat 3 (by omega)
    obtain ⟨f, hf⟩ := choose_lt hrow
    refine ⟨some a, (List.range l0).map f, c0, by simpa using hcs, by simpa using hl, fun h0 => ?_, by simp; omega, fun j => ?_⟩
    · simp only [List.length_map, List.length_range] at h0
      have h2 := (hf 0 h0).1.1
      obtain ⟨b, off, spot⟩ := a
      have hspot : spot = none := by simpa [Addr.add] using World.cell?_spot h2
      subst hspot
      refine ⟨b, off, rfl, cell_lt h2, fun i hi j v hj => ?_⟩
      have hi' : i < l0 := by simpa using hi
      have hp' : ((List.range l0).map f).getD i default = f i := by simp [List.getD, hi']
      simp only [hp'] at hj
      obtain ⟨k0, k1, k2, k3⟩ := (hf i hi').1
      rw [Go.WideShapes.add_plain] at k0 k1 k2 k3
      match j, hj with
      | 0, hj =>
        simp only [List.getElem?_cons_zero, Option.some.injEq] at hj
        subst hj
        exact k0
      | 1, hj =>
        simp only [List.getElem?_cons_succ, List.getElem?_cons_zero, Option.some.injEq] at hj
        subst hj
        exact k1
      | 2, hj =>
        simp only [List.getElem?_cons_succ, List.getElem?_cons_zero, Option.some.injEq] at hj
        subst hj
        exact k2
      | 3, hj =>
        simp only [List.getElem?_cons_succ, List.getElem?_cons_zero, Option.some.injEq] at hj
        subst hj
        exact k3
      | j + 4, hj => simp at hj
    · by_cases hj : j < l0
      · have hp' : ((List.range l0).map f).getD j default = f j := by simp [List.getD, hj]
        rw [hp']
        exact (hf j hj).2
      · have hp' : ((List.range l0).map f).getD j default = default := by simp [List.getD, hj]
        rw [hp']
        decide
set_option maxRecDepth 100000 in
theorem open_burners {r : Reach} {b0 : Nat} {v : Value} {d : DataW H} {p : List MemPlace} (hv : Value.okWide Try.prog w r b0 42 v) (h : DataW.Trod enc Try.prog w base spare held 42 v d p) (hw : ∀ n ∈ d.weights Try.prog 42, n ≤ reachBytes) :
    ∃ (A : Option Addr) (ps : List MBurner) (c : Nat), v = .slice A ps.length c ∧ ps.length ≤ c ∧ (SlAt w A ps.length 4 fun i => [.int .i64 (ps.getD i default).ready, .int .i64 (ps.getD i default).due, .int .i64 (ps.getD i default).hours, .int .i64 (ps.getD i default).heat]) ∧ ps.length ≤ 140737488355328 ∧ ∀ j, InI64 (ps.getD j default).ready ∧ InI64 (ps.getD j default).due ∧ InI64 (ps.getD j default).hours ∧ InI64 (ps.getD j default).heat := by
  obtain ⟨a0, l0, c0, rfl⟩ := okWide_slice Try.underlying42 hv
  obtain ⟨fuel, hf⟩ := h
  exact open_burners_at (v := .slice a0 l0 c0) (x := (d, p)) hf hw
end
end Go.Proofs.Ytlcccomdijdkaaa
namespace Go.Proofs.Ytlcccomdijdkaaa
open Go.RowKit

variable {P : Program} {X : Ctx} {E : Env} {a : Act} {w : World}

theorem any_prefix {lay : Lay} (hl : LayOK P lay) {ops : List Oper} {hs : List (Nat × Hint)} {st st' : SState} {tr : List IT} {obs : List Ob} (mm : Nat) (hm : mm ≤ ops.length) (pre : Nat → Bool) (hbar : ∀ j, mm ≤ j → j < ops.length → ∀ i, i < mm → pre i = true ∨ (nthN (masks [] ops) j).testBit i = true) (he : evalOps lay ops hs 0 (ops.take mm) st = some (tr, obs, st')) (ho : AllOb P X.w0.heap.size obs)
    (hd : ∀ o ∈ ops, ∀ d, o.dst = some d → d < X.n) (hE : edgesAll 0 ops = true) (hI : initB st tr = true) (hA : allPairs (masks [] ops) 0 [] (tr.map fun t => (fpOf ops.toArray t, t)) = true)
    {Q : Exit → Act → World → Prop} (kk : ∀ fuel (listed : Array Bool) E' a' w', listed.size = ops.length → (∀ i, i < ops.length → listed.getD i false = decide (i < mm)) → (List.range ops.length).countP (fun i => !listed.getD i false) ≤ fuel → St X st' E' a' w' → wpAny P .any ops.toArray Q fuel listed a' w') : ∀ (fuel : Nat) (listed : Array Bool) (E : Env) (a : Act) (w : World), listed.size = ops.length →
      (∀ j o, ops[j]? = some o → listed.getD j false = true → ∀ e ∈ o.after.toList, Region.binds .any e = true → listed.getD e.on false = true) → (List.range ops.length).countP (fun i => !listed.getD i false) ≤ fuel → (∀ i, listed.getD i false = true → i < mm) → (∀ i, pre i = true → listed.getD i false = true) →
      StF X (slotsL (fun i => listed.getD i false) 0 tr (look st.slots)) (blksL (fun i => listed.getD i false) 0 tr (look st.m.blks)) st.m.rds st.m.grs E a w → wpAny P .any ops.toArray Q fuel listed a w := by
  obtain ⟨hlen, hspec, hf1, hf2, hf3, hf4⟩ := evalOps_spec (ops.take mm) 0 st tr obs st' he ho
  have hlen : tr.length = mm := by rw [hlen, List.length_take]; omega
  have hfull : ∀ (fuel : Nat) (listed : Array Bool) (E : Env) (a : Act) (w : World), listed.size = ops.length → (List.range ops.length).countP (fun i => !listed.getD i false) ≤ fuel → (∀ i, listed.getD i false = true → i < mm) → (∀ j, j < mm → listed.getD j false = true) →
      StF X (slotsL (fun i => listed.getD i false) 0 tr (look st.slots)) (blksL (fun i => listed.getD i false) 0 tr (look st.m.blks)) st.m.rds st.m.grs E a w → wpAny P .any ops.toArray Q fuel listed a w := fun fuel listed E a w hz hc hsub hall S => by
    refine kk fuel listed E a w hz (fun i hi => ?_) hc ?_
    · by_cases him : i < mm
      · rw [hall i him, decide_eq_true him]
      · rw [decide_eq_false him]
        cases hl : listed.getD i false with
        | false => rfl
        | true => exact absurd (hsub i hl) him
    unfold St
    rw [hf1, hf2, hf3, hf4]
    refine S.weak (fun t sv h => ?_) (fun g x h => ?_)
    · rw [← h]
      exact slotsL_ext tr 0 _ _ rfl (fun k x hk _ => by have := (List.getElem?_eq_some_iff.1 hk).1; rw [Nat.zero_add]; exact hall k (by omega))
    · rw [← h]
      exact blksL_ext tr 0 _ _ rfl (fun k x hk _ => by have := (List.getElem?_eq_some_iff.1 hk).1; rw [Nat.zero_add]; exact hall k (by omega))
  -- while something is left, something is ready
  have hready : ∀ (listed : Array Bool), listed.size = ops.length → Region.ready .any ops.toArray listed = [] → ∀ j, j < ops.length → listed.getD j false = true := fun listed hz hr j => by
    induction j using Nat.strongRecOn with
    | _ j ih =>
      intro hj
      cases hlj : listed.getD j false with
      | true => rfl
      | false =>
        exfalso
        have : j ∈ Region.ready .any ops.toArray listed := mem_ready.2 ⟨getD_in (by omega) hlj, ops[j], by simp [hj], fun e he hb => by
          have := edgesB_ok (by have := edgesAll_ok hE j ops[j] (by simp [hj]); rwa [Nat.zero_add] at this) e (by simpa using he) hb
          exact ih _ this (by omega)⟩
        rw [hr] at this
        cases this
  intro fuel
  induction fuel with
  | zero =>
    intro listed E a w hz hcl hc hsub hpr S
    refine hfull 0 listed E a w hz hc hsub (fun j hj => ?_) S
    have h0 : (List.range ops.length).countP (fun i => !listed.getD i false) = 0 := by omega
    have := List.countP_eq_zero.1 h0 j (List.mem_range.2 (by omega))
    simpa using this
  | succ fuel ih =>
    intro listed E a w hz hcl hc hsub hpr S
    by_cases hall : ∀ j, j < mm → listed.getD j false = true
    · exact hfull (fuel + 1) listed E a w hz hc hsub hall S
    refine ⟨fun hr => absurd (fun j hj => hready listed hz hr j (by omega)) hall, fun j hj => ?_⟩
    obtain ⟨hun, o, hoj, hedges⟩ := mem_ready.1 hj
    have hoj' : ops[j]? = some o := by simpa using hoj
    have hjl : j < ops.length := (List.getElem?_eq_some_iff.1 hoj').1
    have hjm : j < mm := Decidable.byContradiction fun hn => hall fun i hi => by
      rcases hbar j (by omega) hjl i hi with h | h
      · exact hpr i h
      · exact (before_ok hE (L := fun i => listed.getD i false) hcl j o hoj' (fun e he hb => hedges e (by simpa using he) hb) i h).1
    obtain ⟨x, ob, hx, hxo, hitem, hob, s1, s2, s3, s4⟩ := hspec j o (by rw [List.getElem?_take, if_pos hjm]; exact hoj')
    subst hxo
    rw [Nat.zero_add] at s1 s2
    obtain ⟨n1, n2, n3⟩ := itemOf_new hitem
    have hLj : listed.getD j false = false := getD_both hun
    -- what is surely ahead of j has been done
    have hpre : ∀ i, (nthN (masks [] ops) j).testBit i = true → listed.getD i false = true := fun i hi =>
      (before_ok hE (L := fun i => listed.getD i false) hcl j x.o hoj' (fun e he hb => hedges e (by simpa using he) hb) i hi).1
    -- j is not surely ahead of what has been done
    have hpost : ∀ i y, tr[i]? = some y → listed.getD i false = true → (nthN (masks [] ops) i).testBit j = true → False := fun i y hy hLi hb => by
      have hi : i < ops.length := by have := (List.getElem?_eq_some_iff.1 hy).1; omega
      have := (before_ok hE (L := fun i => listed.getD i false) hcl i ops[i] (by simp [hi]) (fun e he hb => hcl i ops[i] (by simp [hi]) hLi e he hb) j hb).1
      rw [hLj] at this
      cases this
    have hpair : ∀ i y, tr[i]? = some y → ∀ m z, tr[m]? = some z → i < m → pairB (nthN (masks [] ops) m) i (fpOf ops.toArray y) (fpOf ops.toArray z) y z = true := fun i y hy m z hz him => by
      have := allPairs_ok (l := tr.map fun t => (fpOf ops.toArray t, t)) (done := []) (k := 0) rfl hA m (fpOf ops.toArray z, z) (by simp [hz]) i (fpOf ops.toArray y, y) (by omega) (by simp [hy])
      rwa [Nat.zero_add] at this
    -- an operation that was done and an operation behind it: apart
    have hlater : ∀ i y, tr[i]? = some y → j < i → listed.getD i false = true → (eqO x.x.dst y.x.dst || memO x.x.dst (y.o.looksAt ops.toArray) || memO y.x.dst (x.o.looksAt ops.toArray) || eqO (ghostOf x.x) (ghostOf y.x) || memO (ghostOf x.x) (touches (effS ops y.st y.o y.h) y.h y.o.op) || memO (ghostOf y.x) (touches (effS ops x.st x.o x.h) x.h x.o.op) || (match x.x.new, ghostOf x.x with | true, some g => names y.x g | _, _ => false)) = false := fun i y hy hji hLi => by
      have hp := hpair j x hx i y hy hji
      simp only [pairB, Bool.and_eq_true, Bool.or_eq_true, Bool.not_eq_true'] at hp
      rcases hp.1 with hb | hb
      · exact (hpost i y hy hLi hb).elim
      · exact hb
    have hearlier : ∀ i y, tr[i]? = some y → i < j → (listed.getD i false = true ∨ (eqO y.x.dst x.x.dst || memO y.x.dst (x.o.looksAt ops.toArray) || memO x.x.dst (y.o.looksAt ops.toArray) || eqO (ghostOf y.x) (ghostOf x.x) || memO (ghostOf y.x) (touches (effS ops x.st x.o x.h) x.h x.o.op) || memO (ghostOf x.x) (touches (effS ops y.st y.o y.h) y.h y.o.op) || (match y.x.new, ghostOf y.x with | true, some g => names x.x g | _, _ => false)) = false) ∧ (∀ g, x.x.new = true → ghostOf x.x = some g → names y.x g = false) := fun i y hy hij => by
      have hp := hpair i y hy j x hx hij
      simp only [pairB, Bool.and_eq_true, Bool.or_eq_true, Bool.not_eq_true'] at hp
      refine ⟨?_, fun g hn hg => ?_⟩
      · rcases hp.1 with hb | hb
        · exact .inl (hpre i hb)
        · exact .inr hb
      · have := hp.2
        simp only [fpOf, hn, hg] at this
        exact this
    obtain ⟨L, hL⟩ : ∃ L : Nat → Bool, L = fun i => listed.getD i false := ⟨_, rfl⟩
    -- the slots that it looks at
    have hop : ∀ t ∈ x.o.looksAt ops.toArray, slotsL L 0 tr (look st.slots) t = look x.st.slots t := fun t ht => by
      rw [s1]
      refine slotsL_ext tr 0 _ _ rfl (fun i y hy hdy => ?_)
      rw [Nat.zero_add, hL]
      by_cases hij : i < j
      · rcases (hearlier i y hy hij).1 with h1 | h1
        · exact h1.trans (decide_eq_true hij).symm
        · simp only [Bool.or_eq_false_iff] at h1
          have := h1.1.1.1.1.1.2
          rw [hdy] at this
          simp only [memO, memN_of ht] at this
          cases this
      · by_cases hji : j < i
        · cases hLi : listed.getD i false with
          | false => exact hLi.trans (decide_eq_false (by omega)).symm
          | true =>
            have h1 := hlater i y hy hji hLi
            simp only [Bool.or_eq_false_iff] at h1
            have := h1.1.1.1.1.2
            rw [hdy] at this
            simp only [memO, memN_of ht] at this
            cases this
        · obtain rfl : i = j := by omega
          exact hLj.trans (decide_eq_false (by omega)).symm
    have hbl : ∀ g ∈ touches (effS ops x.st x.o x.h) x.h x.o.op, blksL L 0 tr (look st.m.blks) g = look x.st.m.blks g := fun g hg => by
      rw [s2]
      refine blksL_ext tr 0 _ _ rfl (fun i y hy hdy => ?_)
      rw [Nat.zero_add, hL]
      by_cases hij : i < j
      · rcases (hearlier i y hy hij).1 with h1 | h1
        · exact h1.trans (decide_eq_true hij).symm
        · simp only [Bool.or_eq_false_iff] at h1
          have := h1.1.1.2
          rw [hdy] at this
          simp only [memO, memN_of hg] at this
          cases this
      · by_cases hji : j < i
        · cases hLi : listed.getD i false with
          | false => exact hLi.trans (decide_eq_false (by omega)).symm
          | true =>
            have h1 := hlater i y hy hji hLi
            simp only [Bool.or_eq_false_iff] at h1
            have := h1.1.2
            rw [hdy] at this
            simp only [memO, memN_of hg] at this
            cases this
        · obtain rfl : i = j := by omega
          exact hLj.trans (decide_eq_false (by omega)).symm
    rw [← hL] at S
    have hwp : (if Region.wanted x.o (yielded ops.toArray a.tmps) then x.o.wp P a w (wpAny P .any ops.toArray Q fuel (listed.setIfInBounds j true)) Q else wpAny P .any ops.toArray Q fuel (listed.setIfInBounds j true) (a.put x.o.dst undef) w) := by
      refine item_sound (X := X) (E := E) hl hitem hob (by rw [s3, s4]; exact S) hop hbl (fun g y hb hn => ?_) (fun g y hb hn => ?_) (fun d hd' => hd x.o (List.mem_of_getElem? hoj') d hd') (fun E' a' w' S' => ?_)
      · -- a new block's number is new
        obtain ⟨f1, f2⟩ := n2 g y hb hn
        have hgh : ghostOf x.x = some g := by simp [ghostOf, hb]
        -- whatever was done does not name it
        have hnm : ∀ i z, tr[i]? = some z → L i = true → names z.x g = false ∧ ghostOf z.x ≠ some g := fun i z hz hLi => by
          rw [hL] at hLi
          by_cases hij : i < j
          · refine ⟨(hearlier i z hz hij).2 g hn hgh, fun hzg => ?_⟩
            -- it would be in the state ahead of j
            have : look x.st.m.blks g ≠ none := by
              rw [s2]
              intro hnone
              have key : ∀ (l : List IT) (m : Nat) (f : BF), (∃ k y, l[k]? = some y ∧ m + k < j ∧ ghostOf y.x = some g) → blksL (fun m => decide (m < j)) m l f g ≠ none := by
                intro l
                induction l with
                | nil => rintro m f ⟨k, y, hy, _⟩; simp at hy
                | cons u l ihl =>
                  rintro m f ⟨k, y, hy, hmk, hg⟩
                  simp only [blksL]
                  have keep : ∀ (l : List IT) (m : Nat) (f : BF), f g ≠ none → blksL (fun m => decide (m < j)) m l f g ≠ none := by
                    intro l
                    induction l with
                    | nil => intro m f h; exact h
                    | cons u l ihl =>
                      intro m f h
                      simp only [blksL]
                      refine ihl _ _ ?_
                      split
                      · rw [blkF_at]
                        split
                        · split
                          · simp
                          · exact h
                        · exact h
                      · exact h
                  cases k with
                  | zero =>
                    simp only [List.getElem?_cons_zero, Option.some.injEq] at hy
                    subst hy
                    refine keep l _ _ ?_
                    rw [if_pos (by simp; omega)]
                    unfold ghostOf at hg
                    rw [blkF_at]
                    cases hb : u.x.blk with
                    | none => rw [hb] at hg; simp at hg
                    | some b =>
                      rw [hb] at hg
                      simp only [Option.some.injEq] at hg
                      simp [hg]
                  | succ k => exact ihl (m + 1) _ ⟨k, y, by simpa using hy, by omega, hg⟩
              exact key tr 0 _ ⟨i, z, hz, by omega, hzg⟩ hnone
            exact this (freshBl_ok f2).1
          · by_cases hji : j < i
            · have h1 := hlater i z hz hji hLi
              simp only [Bool.or_eq_false_iff] at h1
              refine ⟨?_, fun hzg => ?_⟩
              · have := h1.2
                simp only [hn, hgh] at this
                exact this
              · have := h1.1.1.1.2
                simp only [hgh, hzg, eqO] at this
                simp at this
            · obtain rfl : i = j := by omega
              exact absurd (hLj.symm.trans hLi) (by simp)
        refine ⟨?_, fun t sv ht => ?_, fun g' y' hg' => ?_⟩
        · cases hbg : blksL L 0 tr (look st.m.blks) g with
          | none => rfl
          | some y' =>
            exfalso
            rcases blksL_from tr 0 L _ g y' hbg with h1 | ⟨i, z, hz, hLi, hzb⟩
            · -- it was there at first: then it is there ahead of j
              have keep : ∀ (l : List IT) (m : Nat) (f : BF), f g ≠ none → blksL (fun m => decide (m < j)) m l f g ≠ none := by
                intro l
                induction l with
                | nil => intro m f h; exact h
                | cons u l ihl =>
                  intro m f h
                  simp only [blksL]
                  refine ihl _ _ ?_
                  split
                  · rw [blkF_at]
                    split
                    · split
                      · simp
                      · exact h
                    · exact h
                  · exact h
              have := keep tr 0 (look st.m.blks) (by rw [h1]; simp)
              rw [← s2] at this
              exact this (freshBl_ok f2).1
            · rw [Nat.zero_add] at hLi
              exact (hnm i z hz hLi).2 (by simp [ghostOf, hzb])
        · rcases slotsL_from tr 0 L _ t sv ht with h1 | ⟨i, z, hz, hLi, rfl⟩
          · exact freshS_ok (initB_ok hI x (List.mem_of_getElem? hx) hn g hgh).1 t sv h1
          · rw [Nat.zero_add] at hLi
            exact (names_free (hnm i z hz hLi).1).1
        · rcases blksL_from tr 0 L _ g' y' hg' with h1 | ⟨i, z, hz, hLi, hzb⟩
          · exact (freshBl_ok (initB_ok hI x (List.mem_of_getElem? hx) hn g hgh).2).2 g' y' h1
          · rw [Nat.zero_add] at hLi
            exact (names_free (hnm i z hz hLi).1).2 g' y' hzb
      · obtain ⟨t, cs, cs', c0, c1, c2⟩ := n3 g y hb hn
        exact ⟨t, cs, cs', c0, (hbl g c2).trans c1, c2⟩
      · refine ih (listed.setIfInBounds j true) E' a' w' (by simpa using hz) (fun i o hi hLi e he hb => ?_) ?_ (fun i hi => by
          by_cases hij : j = i
          · omega
          · rw [getD_set_ne false hij] at hi; exact hsub i hi) (fun i hi => getD_set_true (hpr i hi)) ?_
        · by_cases hij : j = i
          · subst hij
            have : o = x.o := by rw [hoj'] at hi; exact (Option.some.inj hi).symm
            subst this
            exact getD_set_true (hedges e (by simpa using he) hb)
          · rw [getD_set_ne false hij] at hLi
            exact getD_set_true (hcl i o hi hLi e he hb)
        · have : (List.range ops.length).countP (fun i => !(listed.setIfInBounds j true).getD i false) < (List.range ops.length).countP (fun i => !listed.getD i false) := by
            refine countP_lt _ (fun i _ hi => ?_) ⟨j, List.mem_range.2 hjl, by simp only [hLj]; rfl, ?_⟩
            · by_cases hij : j = i
              · subst hij; simp only [hLj]; rfl
              · rw [getD_set_ne false hij] at hi; exact hi
            · simp [hz, hjl]
          omega
        · have hset : ∀ i, i ≠ j → (listed.setIfInBounds j true).getD i false = L i := fun i hi => by rw [hL, getD_set_ne false (fun e => hi e.symm)]
          have hsj : (listed.setIfInBounds j true).getD j false = true := by simp [hz, hjl]
          have hLj' : L j = false := by rw [hL]; exact hLj
          rw [slotsL_set (L := L) (L' := fun i => (listed.setIfInBounds j true).getD i false) (j := j) (xj := x) hLj' hsj hset tr 0 _ (Nat.zero_le _) (by simpa using hx) (fun i y hy hji hLi t hdt hxt => by
              rw [Nat.zero_add] at hji hLi
              rw [hL] at hLi
              have h1 := hlater i y hy hji hLi
              simp only [Bool.or_eq_false_iff] at h1
              have := h1.1.1.1.1.1.1
              simp [eqO, hdt, hxt] at this),
            blksL_set (L := L) (L' := fun i => (listed.setIfInBounds j true).getD i false) (j := j) (xj := x) hLj' hsj hset tr 0 _ (Nat.zero_le _) (by simpa using hx) (fun i y hy hji hLi t hdt hxt => by
              rw [Nat.zero_add] at hji hLi
              rw [hL] at hLi
              have h1 := hlater i y hy hji hLi
              simp only [Bool.or_eq_false_iff] at h1
              have := h1.1.1.1.2
              simp [eqO, hdt, hxt] at this)]
          rw [s3, s4] at S'
          exact S'
    unfold wpOp
    simp only [hoj]
    split
    · rename_i hw; rw [if_pos hw] at hwp; exact .inl hwp
    · rename_i hw; rw [if_neg hw] at hwp; exact hwp


/-- one after the other, from m on -/
def forcedB (ops : List Oper) (m : Nat) : Bool := (List.range ops.length).all fun j => Nat.blt j m || (List.range j).all fun i => Nat.blt i m || Nat.testBit (nthN (masks [] ops) j) i
theorem any_forced {ops : List Oper} (hE : edgesAll 0 ops = true) {Q : Exit → Act → World → Prop} {m0 : Nat} (hbar : ∀ j, m0 ≤ j → j < ops.length → ∀ i, i < j → m0 ≤ i → (nthN (masks [] ops) j).testBit i = true) : ∀ (rest : List Oper) (m fuel : Nat) (listed : Array Bool) (a : Act) (w : World), m0 ≤ m → ops.drop m = rest → listed.size = ops.length →
    (∀ i, i < ops.length → listed.getD i false = decide (i < m)) → (List.range ops.length).countP (fun i => !listed.getD i false) ≤ fuel → wpList P ops.toArray Q rest a w → wpAny P .any ops.toArray Q fuel listed a w := by
  have hcl : ∀ (m : Nat) (listed : Array Bool), (∀ i, i < ops.length → listed.getD i false = decide (i < m)) → ∀ j o, ops[j]? = some o → listed.getD j false = true → ∀ e ∈ o.after.toList, Region.binds .any e = true → listed.getD e.on false = true := fun m listed hl j o hj hLj e he hb => by
    have hjl : j < ops.length := (List.getElem?_eq_some_iff.1 hj).1
    have hlt := edgesB_ok (by have := edgesAll_ok hE j o hj; rwa [Nat.zero_add] at this) e he hb
    rw [hl j hjl] at hLj
    have := of_decide_eq_true hLj
    rw [hl e.on (by omega)]
    exact decide_eq_true (by omega)
  intro rest
  induction rest with
  | nil =>
    intro m fuel listed a w hm hr hz hl hc h
    have hml : ops.length ≤ m := by
      have := congrArg List.length hr
      simp at this
      omega
    have hready : Region.ready .any ops.toArray listed = [] := by
      cases hr : Region.ready .any ops.toArray listed with
      | nil => rfl
      | cons i r =>
        obtain ⟨h1, o, h2, _⟩ := mem_ready.1 (show i ∈ Region.ready .any ops.toArray listed from hr ▸ List.mem_cons_self)
        have hi : i < ops.length := by have := (Array.getElem?_eq_some_iff.1 h2).1; simpa using this
        have := hl i hi
        rw [getD_both h1, decide_eq_true (by omega)] at this
        cases this
    cases fuel with
    | zero => exact ⟨hready, h⟩
    | succ fuel => exact ⟨fun _ => h, fun j hj => by rw [hready] at hj; cases hj⟩
  | cons o rest ih =>
    intro m fuel listed a w hm hr hz hl hc h
    have hmo : ops[m]? = some o := by
      have := congrArg (fun l => l[0]?) hr
      simpa using this
    have hml : m < ops.length := (List.getElem?_eq_some_iff.1 hmo).1
    have hun : listed.getD m false = false := (hl m hml).trans (decide_eq_false (by omega))
    have hrest : ops.drop (m + 1) = rest := by
      rw [← List.drop_drop, hr]; rfl
    have hset : ∀ i, i < ops.length → (listed.setIfInBounds m true).getD i false = decide (i < m + 1) := fun i hi => by
      by_cases e : m = i
      · subst e
        rw [decide_eq_true (by omega)]
        simp [hz, hml]
      · rw [getD_set_ne false e, hl i hi]
        by_cases h1 : i < m
        · rw [decide_eq_true h1, decide_eq_true (by omega)]
        · rw [decide_eq_false h1, decide_eq_false (by omega)]
    have hcnt : (List.range ops.length).countP (fun i => !(listed.setIfInBounds m true).getD i false) < (List.range ops.length).countP (fun i => !listed.getD i false) := by
      refine countP_lt _ (fun i _ hi => ?_) ⟨m, List.mem_range.2 hml, by simp only [hun]; rfl, ?_⟩
      · by_cases e : m = i
        · subst e; simp only [hun]; rfl
        · rw [getD_set_ne false e] at hi; exact hi
      · simp [hz, hml]
    cases fuel with
    | zero => omega
    | succ fuel =>
      refine ⟨fun hrd => ?_, fun j hj => ?_⟩
      · exfalso
        have : m ∈ Region.ready .any ops.toArray listed := mem_ready.2 ⟨getD_in (by omega) hun, o, by simpa using hmo, fun e he hb => by
          have := edgesB_ok (by have := edgesAll_ok hE m o hmo; rwa [Nat.zero_add] at this) e (by simpa using he) hb
          exact (hl e.on (by omega)).trans (decide_eq_true this)⟩
        rw [hrd] at this
        cases this
      · obtain ⟨hjun, oj, hoj, hedges⟩ := mem_ready.1 hj
        have hoj' : ops[j]? = some oj := by simpa using hoj
        have hjl : j < ops.length := (List.getElem?_eq_some_iff.1 hoj').1
        have hLj : listed.getD j false = false := getD_both hjun
        have hjm : ¬ j < m := fun hlt => by
          rw [hl j hjl, decide_eq_true hlt] at hLj
          cases hLj
        have e : j = m := by
          rcases Nat.lt_or_ge m j with hlt | hge
          · exfalso
            have := (before_ok hE (L := fun i => listed.getD i false) (hcl m listed hl) j oj hoj' (fun e he hb => hedges e (by simpa using he) hb) m (hbar j (by omega) hjl m hlt hm)).1
            rw [hun] at this
            cases this
          · omega
        subst e
        have : wpOp P ops.toArray Q j (wpList P ops.toArray Q rest) a w := by
          unfold wpOp
          simp only [List.getElem?_toArray, hmo]
          exact h
        exact wpOp_mono (fun a' w' h' => ih (j + 1) fuel _ a' w' (by omega) hrest (by simpa using hz) hset (by omega) h') this
/-- the first operation floats: it is a move -/
def floatB (ops : List Oper) : Bool := match ops with
  | o0 :: r => (match o0.op, o0.guard, o0.dst, o0.after.toList with
    | .move (.tmp _), none, some _, [] => true
    | _, _, _, _ => false) && r.all fun oj => oj.after.any (fun e => Region.binds .any e && Nat.beq e.on 0) || o0.apart ops.toArray oj
  | [] => false
def barB (ops : List Oper) (m : Nat) (fl : Bool) : Bool := (List.range ops.length).all fun j => Nat.blt j m || (List.range m).all fun i => (fl && Nat.beq i 0) || Nat.testBit (nthN (masks [] ops) j) i
def cutB (lay : Lay) (ops : List Oper) (hs : List (Nat × Hint)) (st : SState) (m : Nat) : Bool := match evalOps lay ops hs 0 (ops.take m) st with
  | some (tr, _, _) => edgesAll 0 ops && initB st tr && allPairs (masks [] ops) 0 [] (tr.map fun t => (fpOf ops.toArray t, t)) && Nat.ble m ops.length && Nat.blt 0 m && barB ops m true && forcedB ops m && floatB ops && Region.noSelect ops.toArray && (look hs 0).isNone
  | none => false
theorem sym_region_cut {lay : Lay} (hl : LayOK P lay) (hmx : P.follows .mixedOrders = true) {id : Nat} {ops : List Oper} (hs : List (Nat × Hint)) (m : Nat) {st : SState} (st' : SState) (obs : List Ob) {Q : Exit → Act → World → Prop} (hn : dstB X.n ops = true)
    (hev : (match evalOps lay ops hs 0 (ops.take m) st with | some (_, obs, st') => some (st', obs) | none => none) = some (st', obs)) (hcut : cutB lay ops hs st m = true) (ho : AllOb P X.w0.heap.size obs) (S : St X st E a w)
    (hQ : ∀ c d v a w, Q (.panic c) (a.put d v) w → Q (.panic c) a w) (kk : ∀ E' a' w', St X st' E' a' w' → wpList P ops.toArray Q (ops.drop m) a' w') : (Code.region id ops.toArray true).wp P Q a w := by
  unfold cutB at hcut
  cases h1 : evalOps lay ops hs 0 (ops.take m) st with
  | none => rw [h1] at hev; simp at hev
  | some r =>
    obtain ⟨tr, obs2, st2⟩ := r
    rw [h1] at hev hcut
    simp only [Option.some.injEq, Prod.mk.injEq] at hev
    obtain ⟨rfl, rfl⟩ := hev
    simp only [Bool.and_eq_true] at hcut
    obtain ⟨⟨⟨⟨⟨⟨⟨⟨⟨d1, d2⟩, d3⟩, d4⟩, d5⟩, d6⟩, d7⟩, d8⟩, d9⟩, d10⟩ := hcut
    have hm := Nat.le_of_ble_eq_true d4
    have hm0 : 0 < m := Nat.lt_of_succ_le (Nat.le_of_ble_eq_true d5)
    have hbar : ∀ j, m ≤ j → j < ops.length → ∀ i, i < m → (decide (i = 0)) = true ∨ (nthN (masks [] ops) j).testBit i = true := fun j hj hjl i hi => by
      have := List.all_eq_true.1 d6 j (List.mem_range.2 hjl)
      simp only [Bool.or_eq_true] at this
      rcases this with h | h
      · have := Nat.lt_of_succ_le (Nat.le_of_ble_eq_true h); omega
      · have := List.all_eq_true.1 h i (List.mem_range.2 hi)
        simp only [Bool.true_and, Bool.or_eq_true, Nat.beq_eq] at this
        rcases this with h | h
        · exact .inl (decide_eq_true h)
        · exact .inr h
    have hfor : ∀ j, m ≤ j → j < ops.length → ∀ i, i < j → m ≤ i → (nthN (masks [] ops) j).testBit i = true := fun j hj hjl i hi hmi => by
      have := List.all_eq_true.1 d7 j (List.mem_range.2 hjl)
      simp only [Bool.or_eq_true] at this
      rcases this with h | h
      · have := Nat.lt_of_succ_le (Nat.le_of_ble_eq_true h); omega
      · have := List.all_eq_true.1 h i (List.mem_range.2 hi)
        simp only [Bool.or_eq_true] at this
        rcases this with h | h
        · have := Nat.lt_of_succ_le (Nat.le_of_ble_eq_true h); omega
        · exact h
    refine wp_region_any hmx ?_
    have S' : St X st E a { w with drawn := w.drawn + 1 } := StF.later S ⟨rfl, rfl, rfl, Nat.le_refl _, fun _ _ => rfl⟩
    generalize ({ w with drawn := w.drawn + 1 } : World) = w1 at S' ⊢
    -- the first one
    cases ops with
    | nil => simp [floatB] at d8
    | cons o0 r =>
    obtain ⟨m', rfl⟩ : ∃ m', m = m' + 1 := ⟨m - 1, by omega⟩
    simp only [floatB, Bool.and_eq_true] at d8
    obtain ⟨e1, e2⟩ := d8
    split at e1
    · rename_i t d g1 g2 g3 g4
      have hI := h1
      rw [List.take_succ_cons] at hI
      simp only [evalOps] at hI
      have hh : hintAt hs 0 = {} := by
        unfold hintAt
        rw [Option.isNone_iff_eq_none.1 d10]
      rw [hh] at hI
      cases hx : look st.slots t with
      | none =>
        exfalso
        have : itemOf lay (o0 :: r) st o0 {} = none := by simp [itemOf, itemShut, wantB, g2, evalOp, evalOp0, g1, opnd, hx]
        rw [this] at hI
        simp at hI
      | some sv =>
        have hit : itemOf lay (o0 :: r) st o0 {} = some (⟨some d, sv, none, false⟩, []) := by simp [itemOf, itemShut, wantB, g2, evalOp, evalOp0, g1, opnd, hx, castTI, g3]
        rw [hit] at hI
        simp only at hI
        cases hr : evalOps lay (o0 :: r) hs 1 (List.take m' r) (applyTI st ⟨some d, sv, none, false⟩) with
        | none => rw [hr] at hI; simp at hI
        | some y =>
          obtain ⟨tr2, ob2, st3⟩ := y
          rw [hr] at hI
          simp only [Option.some.injEq, Prod.mk.injEq] at hI
          obtain ⟨htr, _, _⟩ := hI
          have hlt0 : (0 : Nat) < (o0 :: r).length := by simp
          have hev0 : a.eval (.tmp t) = sv.val E := by
            have := S'.slot t sv hx
            simp [Act.eval, this]
          have hsz : (o0 :: r).toArray.size = (o0 :: r).length := by simp
          rw [hsz]
          refine wpAny_first (i := 0) (oi := o0) (v := sv.val E) (by simp) (Region.noSelect_spec d9) (fun c a w h => hQ c _ _ a w h) r.length (Array.replicate (o0 :: r).length false) a w1 (fun j oj hoj hj0 _ hno => ?_) ?_ (.inl ⟨by simp [Region.wanted, g2], fun w => ?_⟩) ?_
          · obtain ⟨j', rfl⟩ : ∃ j', j = j' + 1 := ⟨j - 1, by omega⟩
            have hmem : oj ∈ r := by
              have : r[j']? = some oj := by simpa using hoj
              exact List.mem_of_getElem? this
            have := List.all_eq_true.1 e2 oj hmem
            simp only [Bool.or_eq_true] at this
            rcases this with h | h
            · exfalso
              rw [Array.any_eq_true'] at h
              obtain ⟨e, he, hb⟩ := h
              simp only [Bool.and_eq_true, Nat.beq_eq] at hb
              exact hno e he hb.1 hb.2
            · exact h
          · refine mem_ready.2 ⟨by simp, o0, by simp, fun e he => ?_⟩
            have : e ∈ o0.after.toList := by simpa using he
            rw [g4] at this
            cases this
          · obtain ⟨dst, op, ty, pos, aft, gd⟩ := o0
            simp only at g1
            subst g1
            simp [execOp, hev0, Sem.run_pure]
          · have hL : ∀ i, ((Array.replicate (o0 :: r).length false).setIfInBounds 0 true).getD i false = decide (i = 0) := fun i => by
              by_cases e : i = 0
              · subst e; simp
              · rw [getD_set_ne false (fun h => e h.symm), getD_replicate_false, decide_eq_false e]
            have hS : StF X (slotsL (fun i => ((Array.replicate (o0 :: r).length false).setIfInBounds 0 true).getD i false) 0 tr (look st.slots)) (blksL (fun i => ((Array.replicate (o0 :: r).length false).setIfInBounds 0 true).getD i false) 0 tr (look st.m.blks)) st.m.rds st.m.grs E (a.put o0.dst (sv.val E)) w1 := by
              rw [show (fun i => ((Array.replicate (o0 :: r).length false).setIfInBounds 0 true).getD i false) = fun i => decide (i = 0) from funext hL, ← htr]
              simp only [slotsL, blksL, decide_true, if_true]
              rw [slotsL_none _ _ _ _ (fun k hk => decide_eq_false (by omega)), blksL_none _ _ _ _ (fun k hk => decide_eq_false (by omega))]
              rw [g3]
              exact StF.put S' (dstB_ok hn o0 (by simp) d g3) sv
            refine any_prefix hl (m' + 1) hm (fun i => decide (i = 0)) hbar h1 ho (dstB_ok hn) d1 d2 d3 (fun fuel listed E' a' w' hz hl' hc S2 => any_forced d1 hfor _ (m' + 1) fuel listed a' w' (Nat.le_refl _) rfl hz hl' hc (kk E' a' w' S2)) r.length _ E _ w1 (by simp) (fun j o hj hLj e he hb => ?_) ?_ (fun i hi => ?_) (fun i hi => by rw [hL]; exact hi) hS
            · rw [hL] at hLj
              have := of_decide_eq_true hLj
              subst this
              simp at hj
              subst hj
              rw [g4] at he
              cases he
            · have : (List.range (o0 :: r).length).countP (fun i => !((Array.replicate (o0 :: r).length false).setIfInBounds 0 true).getD i false) < (List.range (o0 :: r).length).countP (fun i => !(Array.replicate (o0 :: r).length false).getD i false) := by
                refine countP_lt _ (fun i _ hi => ?_) ⟨0, List.mem_range.2 hlt0, by rw [getD_replicate_false]; rfl, by rw [hL]; rfl⟩
                rw [getD_replicate_false]; rfl
              have h2 : (List.range (o0 :: r).length).countP (fun i => !(Array.replicate (o0 :: r).length false).getD i false) ≤ (o0 :: r).length := Nat.le_trans List.countP_le_length (by simp)
              simp only [List.length_cons] at this h2 ⊢
              omega
            · rw [hL] at hi
              have := of_decide_eq_true hi
              omega
    · cases e1
theorem sym_region_cutP {lay : Lay} (hl : LayOK P lay) (hmx : P.follows .mixedOrders = true) {id : Nat} {ops : List Oper} (hs : List (Nat × Hint)) (m : Nat) (ks gs : List Nat) {st : SState} (st' : SState) (obs : List Ob) {Q : Exit → Act → World → Prop} (S : St X st E a w) (hn : dstB X.n ops = true)
    (hev : evalP lay ops hs 0 m ks gs ops st = some (st', obs)) (hcut : cutB lay ops hs st m = true) (ho : AllOb P X.w0.heap.size obs)
    (hQ : ∀ c d v a w, Q (.panic c) (a.put d v) w → Q (.panic c) a w) (kk : ∀ E' a' w', St X st' E' a' w' → wpList P ops.toArray Q (ops.drop m) a' w') : (Code.region id ops.toArray true).wp P Q a w := by
  unfold evalP at hev
  cases h1 : evalN lay ops hs 0 m ops st with
  | none => rw [h1] at hev; simp at hev
  | some r =>
    obtain ⟨s, o2⟩ := r
    rw [h1] at hev
    simp only [Option.some.injEq, Prod.mk.injEq] at hev
    obtain ⟨rfl, rfl⟩ := hev
    exact sym_region_cut hl hmx hs m s o2 hn h1 hcut ho S hQ fun E' a' w' S' => kk E' a' w' (S'.weak (fun t sv h => pickL_sub _ _ _ _ h) (fun g x h => pickL_sub _ _ _ _ h))
end Go.Proofs.Ytlcccomdijdkaaa
namespace Go.Proofs.Ytlcccomdijdkaaa
open Go.RowKit Go.Proofs.Try
abbrev wCells (x : MWater) : List Value := [.int .i64 x.flow.lo, .int .i64 x.flow.hi, .int .i64 x.warm.lo, .int .i64 x.warm.hi]
abbrev wGQ (xs : List MWater) : GQ := ⟨25, 4, xs.length, xs.flatMap wCells⟩
/-- behind a point: the stream, and what was known on the way -/
def Passed (b : Nat) (V : Value) (c : MWater) (pre : List MWater) (W w' : World) : Prop :=
  ∃ V', Blk w' b 91 #[.int .i64 c.flow.lo, .int .i64 c.flow.hi, .int .i64 c.warm.lo, .int .i64 c.warm.hi, V'] ∧ GrAt w' 0 (wGQ pre) V' ∧ V'.ownBlock ≠ some b ∧ (∀ k, V'.ownBlock = some k → V.ownBlock = some k ∨ W.heap.size ≤ k) ∧ Kept (fun k => k = b ∨ V.ownBlock = some k) W w'
theorem pass_end {W : World} {b n : Nat} {cs : List SV} {V : Value} {E : Env} {a : Act} {w : World} {st : SState} {c : MWater} {pre : List MWater}
    (S : St ⟨W, fun b0 => inCB [⟨1000, b, 91, cs⟩] b0 ∨ V.ownBlock = some b0, n, [], allR, rhoOf [⟨1000, b, 91, cs⟩], (envOf []).sl, (envOf []).x⟩ st E a w)
    (hb : look st.m.blks 1000 = some (.blk 91 [iv (c.flow.lo), iv (c.flow.hi), iv (c.warm.lo), iv (c.warm.hi), .gr 0])) (hg : look st.m.grs 0 = some (wGQ pre)) (_ : True = True) (_ : True = True) (_ : True = True) : Passed b V c pre W w := by
  have hB := S.mem.blk 1000 _ _ hb
  have hρ : E.ρ 1000 = b := (S.pin.1 1000 (Nat.le_refl _)).trans rfl
  rw [hρ] at hB
  refine ⟨E.gr 0, hB, S.mem.gr 0 _ hg, fun h => ?_, fun k hk => ?_, S.kept.mono fun k _ h => ?_⟩
  · exact S.sep.mix 1000 0 _ _ _ hb hg (h.trans (by rw [hρ]))
  · rcases S.sep.ginj.2 0 _ k hg hk with h | h | h
    · exact .inr h
    · obtain ⟨x, hx, e⟩ := h
      rw [List.mem_singleton.1 hx] at e
      simp only at e
      subst e
      exact absurd (hk.trans (by rw [hρ])) (S.sep.mix 1000 0 _ _ _ hb hg)
    · exact .inl h
  · rcases h with ⟨x, hx, rfl⟩ | h
    · rw [List.mem_singleton.1 hx]; exact .inl rfl
    · exact .inr h
def pass0 (c : MWater) (pre : List MWater) (p : MPoint) : Option (MWater × List MWater × Int) :=
(stream_join_valid (MJoin.mk (MSpan.mk p.flow.lo p.flow.hi) (MSpan.mk p.warm.lo p.warm.hi))).bind fun (r1 : Bool) =>
(bif (!r1) then
(some ((MWater.mk (MSpan.mk c.flow.lo c.flow.hi) (MSpan.mk c.warm.lo c.warm.hi)), pre, 1))
else
((stream_join_behind (MJoin.mk (MSpan.mk p.flow.lo p.flow.hi) (MSpan.mk p.warm.lo p.warm.hi)) (MWater.mk (MSpan.mk c.flow.lo c.flow.hi) (MSpan.mk c.warm.lo c.warm.hi))).bind fun (r2 : MWater) =>
(bif decide (r2.flow.lo < 1) then
(some ((MWater.mk (MSpan.mk r2.flow.lo r2.flow.hi) (MSpan.mk r2.warm.lo r2.warm.hi)), pre, 10))
else
((bif (decide (1073741824 < r2.flow.hi) || decide (100000 < r2.warm.hi)) then
(some ((MWater.mk (MSpan.mk r2.flow.lo r2.flow.hi) (MSpan.mk r2.warm.lo r2.warm.hi)), pre, 12))
else
(grd ((pre.length + 1 ≤ 1000000)) <|
some ((MWater.mk (MSpan.mk r2.flow.lo r2.flow.hi) (MSpan.mk r2.warm.lo r2.warm.hi)), (pre ++ [(MWater.mk (MSpan.mk r2.flow.lo r2.flow.hi) (MSpan.mk r2.warm.lo r2.warm.hi))]), 0)))))))
set_option maxRecDepth 100000 in
set_option maxHeartbeats 4000000 in
theorem pass0_ok (c : MWater) (pre : List MWater) (p : MPoint) (W : World) (b : Nat) (V : Value) (hB : Blk W b 91 #[.int .i64 c.flow.lo, .int .i64 c.flow.hi, .int .i64 c.warm.lo, .int .i64 c.warm.hi, V]) (hG : GrAt W 0 (wGQ pre) V) (hV : V.ownBlock ≠ some b) (res : MWater × List MWater × Int) (h : pass0 c pre p = some res) :
    Calls Go.Proofs.Try.prog 54 #[.pointer (some ⟨b, 0, none⟩), .agg #[.int .i64 0, .int .i64 p.flow.lo, .int .i64 p.flow.hi, .int .i64 p.warm.lo, .int .i64 p.warm.hi, .int .i64 p.heat.lo, .int .i64 p.heat.hi, .int .i64 p.share.lo, .int .i64 p.share.hi]] W fun e w' => e = .returned (.int .i64 res.2.2) ∧ Passed b V res.1 res.2.1 W w' := by
  refine sym_closure_g (f := 54) (fn := Go.Proofs.Try.f54) (c := Go.Proofs.Try.f54.body.get rfl) Go.Proofs.Try.func54 rfl [.own 1000 0, .agg [iv (0), iv (p.flow.lo), iv (p.flow.hi), iv (p.warm.lo), iv (p.warm.hi), iv (p.heat.lo), iv (p.heat.hi), iv (p.share.lo), iv (p.share.hi)]] [⟨1000, b, 91, [iv (c.flow.lo), iv (c.flow.hi), iv (c.warm.lo), iv (c.warm.hi), .gr 0]⟩] [(1000, .blk 91 [iv (c.flow.lo), iv (c.flow.hi), iv (c.warm.lo), iv (c.warm.hi), .gr 0])] rfl ⟨25, 4, pre.length, pre.flatMap (fun x => [.int .i64 x.flow.lo, .int .i64 x.flow.hi, .int .i64 x.warm.lo, .int .i64 x.warm.hi])⟩ V (by kernel_rfl) ⟨hB, trivial⟩ ⟨trivial, trivial⟩ hG (fun k hk => ⟨fun (e : k = b) => hV (e ▸ hk), trivial⟩) fun E a w S => ?_
  rw [pass0] at h
  refine sym_seq lay_ok mixed [(0, { g := 0 })] [0, 3] [1000, 0] (⟨[(0, .own 1000 0), (3, .own 0 0)], ⟨[(1000, .blk 91 [iv (c.flow.lo), iv (c.flow.hi), iv (c.warm.lo), iv (c.warm.hi), .gr 0]), (0, .blk 47 [iv (0), iv (p.flow.lo), iv (p.flow.hi), iv (p.warm.lo), iv (p.warm.hi), iv (p.heat.lo), iv (p.heat.hi), iv (p.share.lo), iv (p.share.hi)])], [], [(0, ⟨25, 4, pre.length, pre.flatMap (fun x => [.int .i64 x.flow.lo, .int .i64 x.flow.hi, .int .i64 x.warm.lo, .int .i64 x.warm.hi])⟩)]⟩⟩) [] S (by kernel_rfl) (by kernel_rfl) (by kernel_rfl) trivial ?_
  clear S; intro E a w S
  refine sym_seq lay_ok mixed [(1, { res := .tup [.v (.iface 114 (.agg #[.int .i64 p.flow.lo, .int .i64 p.flow.hi, .int .i64 p.warm.lo, .int .i64 p.warm.hi])), .v (.bool true)] })] [0, 5, 6] [1000] (⟨[(0, .own 1000 0), (5, .v (.iface 114 (.agg #[.int .i64 p.flow.lo, .int .i64 p.flow.hi, .int .i64 p.warm.lo, .int .i64 p.warm.hi]))), (6, .v (.bool true))], ⟨[(1000, .blk 91 [iv (c.flow.lo), iv (c.flow.hi), iv (c.warm.lo), iv (c.warm.hi), .gr 0])], [], [(0, ⟨25, 4, pre.length, pre.flatMap (fun x => [.int .i64 x.flow.lo, .int .i64 x.flow.hi, .int .i64 x.warm.lo, .int .i64 x.warm.hi])⟩)]⟩⟩) [.call ⟨[], [], [(0, ⟨25, 4, pre.length, pre.flatMap (fun x => [.int .i64 x.flow.lo, .int .i64 x.flow.hi, .int .i64 x.warm.lo, .int .i64 x.warm.hi])⟩)]⟩ 65 [.agg [iv (0), iv (p.flow.lo), iv (p.flow.hi), iv (p.warm.lo), iv (p.warm.hi), iv (p.heat.lo), iv (p.heat.hi), iv (p.share.lo), iv (p.share.hi)]] (.tup [.v (.iface 114 (.agg #[.int .i64 p.flow.lo, .int .i64 p.flow.hi, .int .i64 p.warm.lo, .int .i64 p.warm.hi])), .v (.bool true)])] S (by kernel_rfl) (by kernel_rfl) (by kernel_rfl) ⟨⟨enters_65, fun _ W _ _ => pointOf0_ok (MPoint.mk 0 (MSpan.mk p.flow.lo p.flow.hi) (MSpan.mk p.warm.lo p.warm.hi) (MSpan.mk p.heat.lo p.heat.hi) (MSpan.mk p.share.lo p.share.hi)) W⟩, trivial⟩ ?_
  clear S; intro E a w S
  refine wp_seq ?_
  obtain ⟨r1, e1, h⟩ := bind_some h
  refine sym_seq lay_ok mixed [(4, { res := .v (.bool r1), pf := some (86, [.agg [iv (p.flow.lo), iv (p.flow.hi), iv (p.warm.lo), iv (p.warm.hi)]]) })] [0, 5, 18] [1000] (⟨[(0, .own 1000 0), (5, .v (.iface 114 (.agg #[.int .i64 p.flow.lo, .int .i64 p.flow.hi, .int .i64 p.warm.lo, .int .i64 p.warm.hi]))), (18, .v (.bool (!r1)))], ⟨[(1000, .blk 91 [iv (c.flow.lo), iv (c.flow.hi), iv (c.warm.lo), iv (c.warm.hi), .gr 0])], [], [(0, ⟨25, 4, pre.length, pre.flatMap (fun x => [.int .i64 x.flow.lo, .int .i64 x.flow.hi, .int .i64 x.warm.lo, .int .i64 x.warm.hi])⟩)]⟩⟩) [.call ⟨[], [], [(0, ⟨25, 4, pre.length, pre.flatMap (fun x => [.int .i64 x.flow.lo, .int .i64 x.flow.hi, .int .i64 x.warm.lo, .int .i64 x.warm.hi])⟩)]⟩ 86 [.agg [iv (p.flow.lo), iv (p.flow.hi), iv (p.warm.lo), iv (p.warm.hi)]] (.v (.bool r1)), .ent (.call ⟨.invoke (.tmp 15) "wormtub/stream.valid", #[], #[]⟩) [.v (.iface 114 (.agg #[.int .i64 p.flow.lo, .int .i64 p.flow.hi, .int .i64 p.warm.lo, .int .i64 p.warm.hi]))] 86 [.agg [iv (p.flow.lo), iv (p.flow.hi), iv (p.warm.lo), iv (p.warm.hi)]]] S (by kernel_rfl) (by kernel_rfl) (by kernel_rfl) ⟨⟨enters_86, fun _ W _ hm => stream_join_valid_ok (MJoin.mk (MSpan.mk p.flow.lo p.flow.hi) (MSpan.mk p.warm.lo p.warm.hi)) W r1 e1⟩, ent_invoke (fun _ => rfl) (fun _ => by kernel_rfl) enters_86, trivial⟩ ?_
  clear S; intro E a w S
  refine sym_if_last (b := (!r1)) S rfl (fun hb1 => ?_) (fun hb1 => ?_)
  · have h := bif_t hb1 h
    refine sym_seq lay_ok mixed [] [4] [1000] (⟨[(4, iv (1))], ⟨[(1000, .blk 91 [iv (c.flow.lo), iv (c.flow.hi), iv (c.warm.lo), iv (c.warm.hi), .gr 0])], [], [(0, ⟨25, 4, pre.length, pre.flatMap (fun x => [.int .i64 x.flow.lo, .int .i64 x.flow.hi, .int .i64 x.warm.lo, .int .i64 x.warm.hi])⟩)]⟩⟩) [] S (by kernel_rfl) (by kernel_rfl) (by kernel_rfl) trivial ?_
    clear S; intro E a w S
    refine wp_ret ?_
    refine out_then_ret ?_
    have h := Option.some.inj h
    subst h
    exact sym_ret lay_ok [iv (1)] (by kernel_rfl) rfl S ⟨rfl, pass_end S rfl rfl rfl rfl rfl⟩
  · have h := bif_f hb1 h
    refine wp_skip ?_
    refine out_then_normal ?_
    obtain ⟨r2, e2, h⟩ := bind_some h
    refine sym_seq lay_ok mixed [(6, { px := some (.v (.func (.method "wormtub/stream.behind") #[.iface 114 (.agg #[.int .i64 p.flow.lo, .int .i64 p.flow.hi, .int .i64 p.warm.lo, .int .i64 p.warm.hi])] #[])) }), (7, { px := some (.v (.func (.method "wormtub/stream.behind") #[.iface 114 (.agg #[.int .i64 p.flow.lo, .int .i64 p.flow.hi, .int .i64 p.warm.lo, .int .i64 p.warm.hi])] #[])) }), (9, { res := .agg [iv (r2.flow.lo), iv (r2.flow.hi), iv (r2.warm.lo), iv (r2.warm.hi)], pf := some (85, [.agg [iv (p.flow.lo), iv (p.flow.hi), iv (p.warm.lo), iv (p.warm.hi)], .agg [iv (c.flow.lo), iv (c.flow.hi), iv (c.warm.lo), iv (c.warm.hi)]]) })] [0] [1000] (⟨[(0, .own 1000 0)], ⟨[(1000, .blk 91 [iv (r2.flow.lo), iv (r2.flow.hi), iv (r2.warm.lo), iv (r2.warm.hi), .gr 0])], [], [(0, ⟨25, 4, pre.length, pre.flatMap (fun x => [.int .i64 x.flow.lo, .int .i64 x.flow.hi, .int .i64 x.warm.lo, .int .i64 x.warm.hi])⟩)]⟩⟩) [.pure ⟨[], [], [(0, ⟨25, 4, pre.length, pre.flatMap (fun x => [.int .i64 x.flow.lo, .int .i64 x.flow.hi, .int .i64 x.warm.lo, .int .i64 x.warm.hi])⟩)]⟩ (.makeFunc (.method "wormtub/stream.behind") #[.tmp 20] #[]) [.v (.iface 114 (.agg #[.int .i64 p.flow.lo, .int .i64 p.flow.hi, .int .i64 p.warm.lo, .int .i64 p.warm.hi]))] (.v (.func (.method "wormtub/stream.behind") #[.iface 114 (.agg #[.int .i64 p.flow.lo, .int .i64 p.flow.hi, .int .i64 p.warm.lo, .int .i64 p.warm.hi])] #[])), .pure ⟨[], [], [(0, ⟨25, 4, pre.length, pre.flatMap (fun x => [.int .i64 x.flow.lo, .int .i64 x.flow.hi, .int .i64 x.warm.lo, .int .i64 x.warm.hi])⟩)]⟩ (.nilCheck (.tmp 25)) [.v (.func (.method "wormtub/stream.behind") #[.iface 114 (.agg #[.int .i64 p.flow.lo, .int .i64 p.flow.hi, .int .i64 p.warm.lo, .int .i64 p.warm.hi])] #[])] (.v (.func (.method "wormtub/stream.behind") #[.iface 114 (.agg #[.int .i64 p.flow.lo, .int .i64 p.flow.hi, .int .i64 p.warm.lo, .int .i64 p.warm.hi])] #[])), .call ⟨[], [], [(0, ⟨25, 4, pre.length, pre.flatMap (fun x => [.int .i64 x.flow.lo, .int .i64 x.flow.hi, .int .i64 x.warm.lo, .int .i64 x.warm.hi])⟩)]⟩ 85 [.agg [iv (p.flow.lo), iv (p.flow.hi), iv (p.warm.lo), iv (p.warm.hi)], .agg [iv (c.flow.lo), iv (c.flow.hi), iv (c.warm.lo), iv (c.warm.hi)]] (.agg [iv (r2.flow.lo), iv (r2.flow.hi), iv (r2.warm.lo), iv (r2.warm.hi)]), .ent (.call ⟨.invoke (.tmp 27) "wormtub/stream.behind", #[.tmp 24], #[25]⟩) [.v (.iface 114 (.agg #[.int .i64 p.flow.lo, .int .i64 p.flow.hi, .int .i64 p.warm.lo, .int .i64 p.warm.hi])), .agg [iv (c.flow.lo), iv (c.flow.hi), iv (c.warm.lo), iv (c.warm.hi)]] 85 [.agg [iv (p.flow.lo), iv (p.flow.hi), iv (p.warm.lo), iv (p.warm.hi)], .agg [iv (c.flow.lo), iv (c.flow.hi), iv (c.warm.lo), iv (c.warm.hi)]]] S (by kernel_rfl) (by kernel_rfl) (by kernel_rfl) ⟨pure_method, pure_nilMethod (fun _ => by kernel_rfl), ⟨enters_85, fun _ W _ hm => stream_join_behind_ok (MJoin.mk (MSpan.mk p.flow.lo p.flow.hi) (MSpan.mk p.warm.lo p.warm.hi)) (MWater.mk (MSpan.mk c.flow.lo c.flow.hi) (MSpan.mk c.warm.lo c.warm.hi)) W r2 e2⟩, ent_invoke (fun _ => rfl) (fun _ => by kernel_rfl) enters_85, trivial⟩ ?_
    clear S; intro E a w S
    refine wp_seq ?_
    refine sym_seq lay_ok mixed [] [0, 37] [1000] (⟨[(0, .own 1000 0), (37, .v (.bool (decide (r2.flow.lo < 1))))], ⟨[(1000, .blk 91 [iv (r2.flow.lo), iv (r2.flow.hi), iv (r2.warm.lo), iv (r2.warm.hi), .gr 0])], [], [(0, ⟨25, 4, pre.length, pre.flatMap (fun x => [.int .i64 x.flow.lo, .int .i64 x.flow.hi, .int .i64 x.warm.lo, .int .i64 x.warm.hi])⟩)]⟩⟩) [] S (by kernel_rfl) (by kernel_rfl) (by kernel_rfl) trivial ?_
    clear S; intro E a w S
    refine sym_if_last (b := decide (r2.flow.lo < 1)) S rfl (fun hb2 => ?_) (fun hb2 => ?_)
    · have h := bif_t hb2 h
      refine sym_seq lay_ok mixed [] [4] [1000] (⟨[(4, iv (10))], ⟨[(1000, .blk 91 [iv (r2.flow.lo), iv (r2.flow.hi), iv (r2.warm.lo), iv (r2.warm.hi), .gr 0])], [], [(0, ⟨25, 4, pre.length, pre.flatMap (fun x => [.int .i64 x.flow.lo, .int .i64 x.flow.hi, .int .i64 x.warm.lo, .int .i64 x.warm.hi])⟩)]⟩⟩) [] S (by kernel_rfl) (by kernel_rfl) (by kernel_rfl) trivial ?_
      clear S; intro E a w S
      refine wp_ret ?_
      refine out_then_ret ?_
      have h := Option.some.inj h
      subst h
      exact sym_ret lay_ok [iv (10)] (by kernel_rfl) rfl S ⟨rfl, pass_end S rfl rfl rfl rfl rfl⟩
    · have h := bif_f hb2 h
      refine wp_skip ?_
      refine out_then_normal ?_
      refine wp_seq ?_
      refine sym_seq lay_ok mixed [(8, { og := true }), (9, { og := true }), (10, { og := true }), (11, { og := true }), (12, { og := true }), (13, { og := true }), (14, { og := true }), (15, { pk := true })] [0, 53] [1000] (⟨[(0, .own 1000 0), (53, .v (.bool (decide (1073741824 < r2.flow.hi) || decide (100000 < r2.warm.hi))))], ⟨[(1000, .blk 91 [iv (r2.flow.lo), iv (r2.flow.hi), iv (r2.warm.lo), iv (r2.warm.hi), .gr 0])], [], [(0, ⟨25, 4, pre.length, pre.flatMap (fun x => [.int .i64 x.flow.lo, .int .i64 x.flow.hi, .int .i64 x.warm.lo, .int .i64 x.warm.hi])⟩)]⟩⟩) [.imp (!(decide (1073741824 < r2.flow.hi))) (!(decide (1073741824 < r2.flow.hi))), .imp (!(decide (1073741824 < r2.flow.hi))) (!(decide (1073741824 < r2.flow.hi))), .imp (!(decide (1073741824 < r2.flow.hi))) (!(decide (1073741824 < r2.flow.hi))), .imp (!(decide (1073741824 < r2.flow.hi))) (!(decide (1073741824 < r2.flow.hi))), .imp (!(decide (1073741824 < r2.flow.hi))) (!(decide (1073741824 < r2.flow.hi))), .imp (!(decide (1073741824 < r2.flow.hi))) (!(decide (1073741824 < r2.flow.hi))), .imp (!(decide (1073741824 < r2.flow.hi))) (!(decide (1073741824 < r2.flow.hi)))] S (by kernel_rfl) (by kernel_rfl) (by kernel_rfl) ⟨fun h => h, fun h => h, fun h => h, fun h => h, fun h => h, fun h => h, fun h => h, trivial⟩ ?_
      clear S; intro E a w S
      refine sym_if_last (b := (decide (1073741824 < r2.flow.hi) || decide (100000 < r2.warm.hi))) S rfl (fun hb3 => ?_) (fun hb3 => ?_)
      · have h := bif_t hb3 h
        refine sym_seq lay_ok mixed [] [4] [1000] (⟨[(4, iv (12))], ⟨[(1000, .blk 91 [iv (r2.flow.lo), iv (r2.flow.hi), iv (r2.warm.lo), iv (r2.warm.hi), .gr 0])], [], [(0, ⟨25, 4, pre.length, pre.flatMap (fun x => [.int .i64 x.flow.lo, .int .i64 x.flow.hi, .int .i64 x.warm.lo, .int .i64 x.warm.hi])⟩)]⟩⟩) [] S (by kernel_rfl) (by kernel_rfl) (by kernel_rfl) trivial ?_
        clear S; intro E a w S
        refine wp_ret ?_
        refine out_then_ret ?_
        have h := Option.some.inj h
        subst h
        exact sym_ret lay_ok [iv (12)] (by kernel_rfl) rfl S ⟨rfl, pass_end S rfl rfl rfl rfl rfl⟩
      · have h := bif_f hb3 h
        refine wp_skip ?_
        refine out_then_normal ?_
        obtain ⟨g1, h⟩ := grd_some h
        refine wp_seq ?_
        refine sym_region_cutP lay_ok mixed [(9, { g := 1 })] 10 [54, 58, 63] [1000, 1] (⟨[(54, .own 1000 0), (58, .gr 0), (63, .row 1 0 1 1)], ⟨[(1000, .blk 91 [iv (r2.flow.lo), iv (r2.flow.hi), iv (r2.warm.lo), iv (r2.warm.hi), .gr 0]), (1, .blk 25 [iv (r2.flow.lo), iv (r2.flow.hi), iv (r2.warm.lo), iv (r2.warm.hi)])], [], [(0, ⟨25, 4, pre.length, pre.flatMap (fun x => [.int .i64 x.flow.lo, .int .i64 x.flow.hi, .int .i64 x.warm.lo, .int .i64 x.warm.hi])⟩)]⟩⟩) [] S (by kernel_rfl) (by kernel_rfl) (by kernel_rfl) trivial (by intro c d v a w h; cases d <;> exact h) ?_
        clear S; intro E a w S
        refine sym_append lay_ok rfl (.tmp 58) (.tmp 63) 29 rfl rfl S 0 1 0 1 1 25 [iv (r2.flow.lo), iv (r2.flow.hi), iv (r2.warm.lo), iv (r2.warm.hi)] ⟨25, 4, pre.length, pre.flatMap (fun x => [.int .i64 x.flow.lo, .int .i64 x.flow.hi, .int .i64 x.warm.lo, .int .i64 x.warm.hi])⟩ ⟨.str [(0, 2, true), (2, 2, true)], 4, [.int .i64 0, .int .i64 0, .int .i64 0, .int .i64 0], true, 32⟩ ⟨.sli 25 4, 1, [.slice none 0 0], false, 24⟩ rfl rfl rfl rfl rfl rfl rfl rfl (show 0 < 4 by decide) rfl rfl (fun e he => by cases he; exact Nat.lt_of_succ_le (Nat.le_of_ble_eq_true rfl)) ⟨25, 4, (pre ++ [(MWater.mk (MSpan.mk r2.flow.lo r2.flow.hi) (MSpan.mk r2.warm.lo r2.warm.hi))]).length, (pre ++ [(MWater.mk (MSpan.mk r2.flow.lo r2.flow.hi) (MSpan.mk r2.warm.lo r2.warm.hi))]).flatMap (fun x => [.int .i64 x.flow.lo, .int .i64 x.flow.hi, .int .i64 x.warm.lo, .int .i64 x.warm.hi])⟩ rfl rfl (by simp) (fun E => by simp [SV.vals, SV.val]) (Nat.le_trans g1 (by decide)) (show (pre.length + 1) * 32 ≤ 140737488355328 by have := g1; omega) rfl ?_
        clear S; intro v0 E a w S; have S := St.pickG S [54, 63, 64] [1000, 1] [0] (⟨[(54, .own 1000 0), (63, .row 1 0 1 1), (64, .gr 0)], ⟨[(1000, .blk 91 [iv (r2.flow.lo), iv (r2.flow.hi), iv (r2.warm.lo), iv (r2.warm.hi), .v (v0)]), (1, .blk 25 [iv (r2.flow.lo), iv (r2.flow.hi), iv (r2.warm.lo), iv (r2.warm.hi)])], [], [(0, ⟨25, 4, (pre ++ [(MWater.mk (MSpan.mk r2.flow.lo r2.flow.hi) (MSpan.mk r2.warm.lo r2.warm.hi))]).length, (pre ++ [(MWater.mk (MSpan.mk r2.flow.lo r2.flow.hi) (MSpan.mk r2.warm.lo r2.warm.hi))]).flatMap (fun x => [.int .i64 x.flow.lo, .int .i64 x.flow.hi, .int .i64 x.warm.lo, .int .i64 x.warm.hi])⟩)]⟩⟩) (by kernel_rfl)
        refine sym_runP lay_ok [] 11 3 [] [1000] (⟨[], ⟨[(1000, .blk 91 [iv (r2.flow.lo), iv (r2.flow.hi), iv (r2.warm.lo), iv (r2.warm.hi), .gr 0])], [], [(0, ⟨25, 4, (pre ++ [(MWater.mk (MSpan.mk r2.flow.lo r2.flow.hi) (MSpan.mk r2.warm.lo r2.warm.hi))]).length, (pre ++ [(MWater.mk (MSpan.mk r2.flow.lo r2.flow.hi) (MSpan.mk r2.warm.lo r2.warm.hi))]).flatMap (fun x => [.int .i64 x.flow.lo, .int .i64 x.flow.hi, .int .i64 x.warm.lo, .int .i64 x.warm.hi])⟩)]⟩⟩) [] S (by kernel_rfl) (by kernel_rfl) trivial ?_
        clear S; intro E a w S
        refine sym_done rfl ?_
        refine out_then_normal ?_
        have S := St.pickG S [] [1000] [0] (⟨[], ⟨[(1000, .blk 91 [iv (r2.flow.lo), iv (r2.flow.hi), iv (r2.warm.lo), iv (r2.warm.hi), .gr 0])], [], [(0, ⟨25, 4, (pre ++ [(MWater.mk (MSpan.mk r2.flow.lo r2.flow.hi) (MSpan.mk r2.warm.lo r2.warm.hi))]).length, (pre ++ [(MWater.mk (MSpan.mk r2.flow.lo r2.flow.hi) (MSpan.mk r2.warm.lo r2.warm.hi))]).flatMap (fun x => [.int .i64 x.flow.lo, .int .i64 x.flow.hi, .int .i64 x.warm.lo, .int .i64 x.warm.hi])⟩)]⟩⟩) (by kernel_rfl)
        refine sym_seq lay_ok mixed [] [4] [1000] (⟨[(4, iv (0))], ⟨[(1000, .blk 91 [iv (r2.flow.lo), iv (r2.flow.hi), iv (r2.warm.lo), iv (r2.warm.hi), .gr 0])], [], [(0, ⟨25, 4, (pre ++ [(MWater.mk (MSpan.mk r2.flow.lo r2.flow.hi) (MSpan.mk r2.warm.lo r2.warm.hi))]).length, (pre ++ [(MWater.mk (MSpan.mk r2.flow.lo r2.flow.hi) (MSpan.mk r2.warm.lo r2.warm.hi))]).flatMap (fun x => [.int .i64 x.flow.lo, .int .i64 x.flow.hi, .int .i64 x.warm.lo, .int .i64 x.warm.hi])⟩)]⟩⟩) [] S (by kernel_rfl) (by kernel_rfl) (by kernel_rfl) trivial ?_
        clear S; intro E a w S
        refine wp_ret ?_
        have h := Option.some.inj h
        subst h
        exact sym_ret lay_ok [iv (0)] (by kernel_rfl) rfl S ⟨rfl, pass_end S rfl rfl rfl rfl rfl⟩
def pass1 (c : MWater) (pre : List MWater) (p : MPoint) : Option (MWater × List MWater × Int) :=
(stream_draw_valid (MDraw.mk (MSpan.mk p.flow.lo p.flow.hi))).bind fun (r1 : Bool) =>
(bif (!r1) then
(some ((MWater.mk (MSpan.mk c.flow.lo c.flow.hi) (MSpan.mk c.warm.lo c.warm.hi)), pre, 1))
else
((stream_draw_behind (MDraw.mk (MSpan.mk p.flow.lo p.flow.hi)) (MWater.mk (MSpan.mk c.flow.lo c.flow.hi) (MSpan.mk c.warm.lo c.warm.hi))).bind fun (r2 : MWater) =>
(bif decide (r2.flow.lo < 1) then
(some ((MWater.mk (MSpan.mk r2.flow.lo r2.flow.hi) (MSpan.mk r2.warm.lo r2.warm.hi)), pre, 10))
else
((bif (decide (1073741824 < r2.flow.hi) || decide (100000 < r2.warm.hi)) then
(some ((MWater.mk (MSpan.mk r2.flow.lo r2.flow.hi) (MSpan.mk r2.warm.lo r2.warm.hi)), pre, 12))
else
(grd ((pre.length + 1 ≤ 1000000)) <|
some ((MWater.mk (MSpan.mk r2.flow.lo r2.flow.hi) (MSpan.mk r2.warm.lo r2.warm.hi)), (pre ++ [(MWater.mk (MSpan.mk r2.flow.lo r2.flow.hi) (MSpan.mk r2.warm.lo r2.warm.hi))]), 0)))))))
set_option maxRecDepth 100000 in
set_option maxHeartbeats 4000000 in
theorem pass1_ok (c : MWater) (pre : List MWater) (p : MPoint) (W : World) (b : Nat) (V : Value) (hB : Blk W b 91 #[.int .i64 c.flow.lo, .int .i64 c.flow.hi, .int .i64 c.warm.lo, .int .i64 c.warm.hi, V]) (hG : GrAt W 0 (wGQ pre) V) (hV : V.ownBlock ≠ some b) (res : MWater × List MWater × Int) (h : pass1 c pre p = some res) :
    Calls Go.Proofs.Try.prog 54 #[.pointer (some ⟨b, 0, none⟩), .agg #[.int .i64 1, .int .i64 p.flow.lo, .int .i64 p.flow.hi, .int .i64 p.warm.lo, .int .i64 p.warm.hi, .int .i64 p.heat.lo, .int .i64 p.heat.hi, .int .i64 p.share.lo, .int .i64 p.share.hi]] W fun e w' => e = .returned (.int .i64 res.2.2) ∧ Passed b V res.1 res.2.1 W w' := by
  refine sym_closure_g (f := 54) (fn := Go.Proofs.Try.f54) (c := Go.Proofs.Try.f54.body.get rfl) Go.Proofs.Try.func54 rfl [.own 1000 0, .agg [iv (1), iv (p.flow.lo), iv (p.flow.hi), iv (p.warm.lo), iv (p.warm.hi), iv (p.heat.lo), iv (p.heat.hi), iv (p.share.lo), iv (p.share.hi)]] [⟨1000, b, 91, [iv (c.flow.lo), iv (c.flow.hi), iv (c.warm.lo), iv (c.warm.hi), .gr 0]⟩] [(1000, .blk 91 [iv (c.flow.lo), iv (c.flow.hi), iv (c.warm.lo), iv (c.warm.hi), .gr 0])] rfl ⟨25, 4, pre.length, pre.flatMap (fun x => [.int .i64 x.flow.lo, .int .i64 x.flow.hi, .int .i64 x.warm.lo, .int .i64 x.warm.hi])⟩ V (by kernel_rfl) ⟨hB, trivial⟩ ⟨trivial, trivial⟩ hG (fun k hk => ⟨fun (e : k = b) => hV (e ▸ hk), trivial⟩) fun E a w S => ?_
  rw [pass1] at h
  refine sym_seq lay_ok mixed [(0, { g := 0 })] [0, 3] [1000, 0] (⟨[(0, .own 1000 0), (3, .own 0 0)], ⟨[(1000, .blk 91 [iv (c.flow.lo), iv (c.flow.hi), iv (c.warm.lo), iv (c.warm.hi), .gr 0]), (0, .blk 47 [iv (1), iv (p.flow.lo), iv (p.flow.hi), iv (p.warm.lo), iv (p.warm.hi), iv (p.heat.lo), iv (p.heat.hi), iv (p.share.lo), iv (p.share.hi)])], [], [(0, ⟨25, 4, pre.length, pre.flatMap (fun x => [.int .i64 x.flow.lo, .int .i64 x.flow.hi, .int .i64 x.warm.lo, .int .i64 x.warm.hi])⟩)]⟩⟩) [] S (by kernel_rfl) (by kernel_rfl) (by kernel_rfl) trivial ?_
  clear S; intro E a w S
  refine sym_seq lay_ok mixed [(1, { res := .tup [.v (.iface 116 (.agg #[.int .i64 p.flow.lo, .int .i64 p.flow.hi])), .v (.bool true)] })] [0, 5, 6] [1000] (⟨[(0, .own 1000 0), (5, .v (.iface 116 (.agg #[.int .i64 p.flow.lo, .int .i64 p.flow.hi]))), (6, .v (.bool true))], ⟨[(1000, .blk 91 [iv (c.flow.lo), iv (c.flow.hi), iv (c.warm.lo), iv (c.warm.hi), .gr 0])], [], [(0, ⟨25, 4, pre.length, pre.flatMap (fun x => [.int .i64 x.flow.lo, .int .i64 x.flow.hi, .int .i64 x.warm.lo, .int .i64 x.warm.hi])⟩)]⟩⟩) [.call ⟨[], [], [(0, ⟨25, 4, pre.length, pre.flatMap (fun x => [.int .i64 x.flow.lo, .int .i64 x.flow.hi, .int .i64 x.warm.lo, .int .i64 x.warm.hi])⟩)]⟩ 65 [.agg [iv (1), iv (p.flow.lo), iv (p.flow.hi), iv (p.warm.lo), iv (p.warm.hi), iv (p.heat.lo), iv (p.heat.hi), iv (p.share.lo), iv (p.share.hi)]] (.tup [.v (.iface 116 (.agg #[.int .i64 p.flow.lo, .int .i64 p.flow.hi])), .v (.bool true)])] S (by kernel_rfl) (by kernel_rfl) (by kernel_rfl) ⟨⟨enters_65, fun _ W _ _ => pointOf1_ok (MPoint.mk 1 (MSpan.mk p.flow.lo p.flow.hi) (MSpan.mk p.warm.lo p.warm.hi) (MSpan.mk p.heat.lo p.heat.hi) (MSpan.mk p.share.lo p.share.hi)) W⟩, trivial⟩ ?_
  clear S; intro E a w S
  refine wp_seq ?_
  obtain ⟨r1, e1, h⟩ := bind_some h
  refine sym_seq lay_ok mixed [(4, { res := .v (.bool r1), pf := some (92, [.agg [iv (p.flow.lo), iv (p.flow.hi)]]) })] [0, 5, 18] [1000] (⟨[(0, .own 1000 0), (5, .v (.iface 116 (.agg #[.int .i64 p.flow.lo, .int .i64 p.flow.hi]))), (18, .v (.bool (!r1)))], ⟨[(1000, .blk 91 [iv (c.flow.lo), iv (c.flow.hi), iv (c.warm.lo), iv (c.warm.hi), .gr 0])], [], [(0, ⟨25, 4, pre.length, pre.flatMap (fun x => [.int .i64 x.flow.lo, .int .i64 x.flow.hi, .int .i64 x.warm.lo, .int .i64 x.warm.hi])⟩)]⟩⟩) [.call ⟨[], [], [(0, ⟨25, 4, pre.length, pre.flatMap (fun x => [.int .i64 x.flow.lo, .int .i64 x.flow.hi, .int .i64 x.warm.lo, .int .i64 x.warm.hi])⟩)]⟩ 92 [.agg [iv (p.flow.lo), iv (p.flow.hi)]] (.v (.bool r1)), .ent (.call ⟨.invoke (.tmp 15) "wormtub/stream.valid", #[], #[]⟩) [.v (.iface 116 (.agg #[.int .i64 p.flow.lo, .int .i64 p.flow.hi]))] 92 [.agg [iv (p.flow.lo), iv (p.flow.hi)]]] S (by kernel_rfl) (by kernel_rfl) (by kernel_rfl) ⟨⟨enters_92, fun _ W _ hm => stream_draw_valid_ok (MDraw.mk (MSpan.mk p.flow.lo p.flow.hi)) W r1 e1⟩, ent_invoke (fun _ => rfl) (fun _ => by kernel_rfl) enters_92, trivial⟩ ?_
  clear S; intro E a w S
  refine sym_if_last (b := (!r1)) S rfl (fun hb1 => ?_) (fun hb1 => ?_)
  · have h := bif_t hb1 h
    refine sym_seq lay_ok mixed [] [4] [1000] (⟨[(4, iv (1))], ⟨[(1000, .blk 91 [iv (c.flow.lo), iv (c.flow.hi), iv (c.warm.lo), iv (c.warm.hi), .gr 0])], [], [(0, ⟨25, 4, pre.length, pre.flatMap (fun x => [.int .i64 x.flow.lo, .int .i64 x.flow.hi, .int .i64 x.warm.lo, .int .i64 x.warm.hi])⟩)]⟩⟩) [] S (by kernel_rfl) (by kernel_rfl) (by kernel_rfl) trivial ?_
    clear S; intro E a w S
    refine wp_ret ?_
    refine out_then_ret ?_
    have h := Option.some.inj h
    subst h
    exact sym_ret lay_ok [iv (1)] (by kernel_rfl) rfl S ⟨rfl, pass_end S rfl rfl rfl rfl rfl⟩
  · have h := bif_f hb1 h
    refine wp_skip ?_
    refine out_then_normal ?_
    obtain ⟨r2, e2, h⟩ := bind_some h
    refine sym_seq lay_ok mixed [(6, { px := some (.v (.func (.method "wormtub/stream.behind") #[.iface 116 (.agg #[.int .i64 p.flow.lo, .int .i64 p.flow.hi])] #[])) }), (7, { px := some (.v (.func (.method "wormtub/stream.behind") #[.iface 116 (.agg #[.int .i64 p.flow.lo, .int .i64 p.flow.hi])] #[])) }), (9, { res := .agg [iv (r2.flow.lo), iv (r2.flow.hi), iv (r2.warm.lo), iv (r2.warm.hi)], pf := some (91, [.agg [iv (p.flow.lo), iv (p.flow.hi)], .agg [iv (c.flow.lo), iv (c.flow.hi), iv (c.warm.lo), iv (c.warm.hi)]]) })] [0] [1000] (⟨[(0, .own 1000 0)], ⟨[(1000, .blk 91 [iv (r2.flow.lo), iv (r2.flow.hi), iv (r2.warm.lo), iv (r2.warm.hi), .gr 0])], [], [(0, ⟨25, 4, pre.length, pre.flatMap (fun x => [.int .i64 x.flow.lo, .int .i64 x.flow.hi, .int .i64 x.warm.lo, .int .i64 x.warm.hi])⟩)]⟩⟩) [.pure ⟨[], [], [(0, ⟨25, 4, pre.length, pre.flatMap (fun x => [.int .i64 x.flow.lo, .int .i64 x.flow.hi, .int .i64 x.warm.lo, .int .i64 x.warm.hi])⟩)]⟩ (.makeFunc (.method "wormtub/stream.behind") #[.tmp 20] #[]) [.v (.iface 116 (.agg #[.int .i64 p.flow.lo, .int .i64 p.flow.hi]))] (.v (.func (.method "wormtub/stream.behind") #[.iface 116 (.agg #[.int .i64 p.flow.lo, .int .i64 p.flow.hi])] #[])), .pure ⟨[], [], [(0, ⟨25, 4, pre.length, pre.flatMap (fun x => [.int .i64 x.flow.lo, .int .i64 x.flow.hi, .int .i64 x.warm.lo, .int .i64 x.warm.hi])⟩)]⟩ (.nilCheck (.tmp 25)) [.v (.func (.method "wormtub/stream.behind") #[.iface 116 (.agg #[.int .i64 p.flow.lo, .int .i64 p.flow.hi])] #[])] (.v (.func (.method "wormtub/stream.behind") #[.iface 116 (.agg #[.int .i64 p.flow.lo, .int .i64 p.flow.hi])] #[])), .call ⟨[], [], [(0, ⟨25, 4, pre.length, pre.flatMap (fun x => [.int .i64 x.flow.lo, .int .i64 x.flow.hi, .int .i64 x.warm.lo, .int .i64 x.warm.hi])⟩)]⟩ 91 [.agg [iv (p.flow.lo), iv (p.flow.hi)], .agg [iv (c.flow.lo), iv (c.flow.hi), iv (c.warm.lo), iv (c.warm.hi)]] (.agg [iv (r2.flow.lo), iv (r2.flow.hi), iv (r2.warm.lo), iv (r2.warm.hi)]), .ent (.call ⟨.invoke (.tmp 27) "wormtub/stream.behind", #[.tmp 24], #[25]⟩) [.v (.iface 116 (.agg #[.int .i64 p.flow.lo, .int .i64 p.flow.hi])), .agg [iv (c.flow.lo), iv (c.flow.hi), iv (c.warm.lo), iv (c.warm.hi)]] 91 [.agg [iv (p.flow.lo), iv (p.flow.hi)], .agg [iv (c.flow.lo), iv (c.flow.hi), iv (c.warm.lo), iv (c.warm.hi)]]] S (by kernel_rfl) (by kernel_rfl) (by kernel_rfl) ⟨pure_method, pure_nilMethod (fun _ => by kernel_rfl), ⟨enters_91, fun _ W _ hm => stream_draw_behind_ok (MDraw.mk (MSpan.mk p.flow.lo p.flow.hi)) (MWater.mk (MSpan.mk c.flow.lo c.flow.hi) (MSpan.mk c.warm.lo c.warm.hi)) W r2 e2⟩, ent_invoke (fun _ => rfl) (fun _ => by kernel_rfl) enters_91, trivial⟩ ?_
    clear S; intro E a w S
    refine wp_seq ?_
    refine sym_seq lay_ok mixed [] [0, 37] [1000] (⟨[(0, .own 1000 0), (37, .v (.bool (decide (r2.flow.lo < 1))))], ⟨[(1000, .blk 91 [iv (r2.flow.lo), iv (r2.flow.hi), iv (r2.warm.lo), iv (r2.warm.hi), .gr 0])], [], [(0, ⟨25, 4, pre.length, pre.flatMap (fun x => [.int .i64 x.flow.lo, .int .i64 x.flow.hi, .int .i64 x.warm.lo, .int .i64 x.warm.hi])⟩)]⟩⟩) [] S (by kernel_rfl) (by kernel_rfl) (by kernel_rfl) trivial ?_
    clear S; intro E a w S
    refine sym_if_last (b := decide (r2.flow.lo < 1)) S rfl (fun hb2 => ?_) (fun hb2 => ?_)
    · have h := bif_t hb2 h
      refine sym_seq lay_ok mixed [] [4] [1000] (⟨[(4, iv (10))], ⟨[(1000, .blk 91 [iv (r2.flow.lo), iv (r2.flow.hi), iv (r2.warm.lo), iv (r2.warm.hi), .gr 0])], [], [(0, ⟨25, 4, pre.length, pre.flatMap (fun x => [.int .i64 x.flow.lo, .int .i64 x.flow.hi, .int .i64 x.warm.lo, .int .i64 x.warm.hi])⟩)]⟩⟩) [] S (by kernel_rfl) (by kernel_rfl) (by kernel_rfl) trivial ?_
      clear S; intro E a w S
      refine wp_ret ?_
      refine out_then_ret ?_
      have h := Option.some.inj h
      subst h
      exact sym_ret lay_ok [iv (10)] (by kernel_rfl) rfl S ⟨rfl, pass_end S rfl rfl rfl rfl rfl⟩
    · have h := bif_f hb2 h
      refine wp_skip ?_
      refine out_then_normal ?_
      refine wp_seq ?_
      refine sym_seq lay_ok mixed [(8, { og := true }), (9, { og := true }), (10, { og := true }), (11, { og := true }), (12, { og := true }), (13, { og := true }), (14, { og := true }), (15, { pk := true })] [0, 53] [1000] (⟨[(0, .own 1000 0), (53, .v (.bool (decide (1073741824 < r2.flow.hi) || decide (100000 < r2.warm.hi))))], ⟨[(1000, .blk 91 [iv (r2.flow.lo), iv (r2.flow.hi), iv (r2.warm.lo), iv (r2.warm.hi), .gr 0])], [], [(0, ⟨25, 4, pre.length, pre.flatMap (fun x => [.int .i64 x.flow.lo, .int .i64 x.flow.hi, .int .i64 x.warm.lo, .int .i64 x.warm.hi])⟩)]⟩⟩) [.imp (!(decide (1073741824 < r2.flow.hi))) (!(decide (1073741824 < r2.flow.hi))), .imp (!(decide (1073741824 < r2.flow.hi))) (!(decide (1073741824 < r2.flow.hi))), .imp (!(decide (1073741824 < r2.flow.hi))) (!(decide (1073741824 < r2.flow.hi))), .imp (!(decide (1073741824 < r2.flow.hi))) (!(decide (1073741824 < r2.flow.hi))), .imp (!(decide (1073741824 < r2.flow.hi))) (!(decide (1073741824 < r2.flow.hi))), .imp (!(decide (1073741824 < r2.flow.hi))) (!(decide (1073741824 < r2.flow.hi))), .imp (!(decide (1073741824 < r2.flow.hi))) (!(decide (1073741824 < r2.flow.hi)))] S (by kernel_rfl) (by kernel_rfl) (by kernel_rfl) ⟨fun h => h, fun h => h, fun h => h, fun h => h, fun h => h, fun h => h, fun h => h, trivial⟩ ?_
      clear S; intro E a w S
      refine sym_if_last (b := (decide (1073741824 < r2.flow.hi) || decide (100000 < r2.warm.hi))) S rfl (fun hb3 => ?_) (fun hb3 => ?_)
      · have h := bif_t hb3 h
        refine sym_seq lay_ok mixed [] [4] [1000] (⟨[(4, iv (12))], ⟨[(1000, .blk 91 [iv (r2.flow.lo), iv (r2.flow.hi), iv (r2.warm.lo), iv (r2.warm.hi), .gr 0])], [], [(0, ⟨25, 4, pre.length, pre.flatMap (fun x => [.int .i64 x.flow.lo, .int .i64 x.flow.hi, .int .i64 x.warm.lo, .int .i64 x.warm.hi])⟩)]⟩⟩) [] S (by kernel_rfl) (by kernel_rfl) (by kernel_rfl) trivial ?_
        clear S; intro E a w S
        refine wp_ret ?_
        refine out_then_ret ?_
        have h := Option.some.inj h
        subst h
        exact sym_ret lay_ok [iv (12)] (by kernel_rfl) rfl S ⟨rfl, pass_end S rfl rfl rfl rfl rfl⟩
      · have h := bif_f hb3 h
        refine wp_skip ?_
        refine out_then_normal ?_
        obtain ⟨g1, h⟩ := grd_some h
        refine wp_seq ?_
        refine sym_region_cutP lay_ok mixed [(9, { g := 1 })] 10 [54, 58, 63] [1000, 1] (⟨[(54, .own 1000 0), (58, .gr 0), (63, .row 1 0 1 1)], ⟨[(1000, .blk 91 [iv (r2.flow.lo), iv (r2.flow.hi), iv (r2.warm.lo), iv (r2.warm.hi), .gr 0]), (1, .blk 25 [iv (r2.flow.lo), iv (r2.flow.hi), iv (r2.warm.lo), iv (r2.warm.hi)])], [], [(0, ⟨25, 4, pre.length, pre.flatMap (fun x => [.int .i64 x.flow.lo, .int .i64 x.flow.hi, .int .i64 x.warm.lo, .int .i64 x.warm.hi])⟩)]⟩⟩) [] S (by kernel_rfl) (by kernel_rfl) (by kernel_rfl) trivial (by intro c d v a w h; cases d <;> exact h) ?_
        clear S; intro E a w S
        refine sym_append lay_ok rfl (.tmp 58) (.tmp 63) 29 rfl rfl S 0 1 0 1 1 25 [iv (r2.flow.lo), iv (r2.flow.hi), iv (r2.warm.lo), iv (r2.warm.hi)] ⟨25, 4, pre.length, pre.flatMap (fun x => [.int .i64 x.flow.lo, .int .i64 x.flow.hi, .int .i64 x.warm.lo, .int .i64 x.warm.hi])⟩ ⟨.str [(0, 2, true), (2, 2, true)], 4, [.int .i64 0, .int .i64 0, .int .i64 0, .int .i64 0], true, 32⟩ ⟨.sli 25 4, 1, [.slice none 0 0], false, 24⟩ rfl rfl rfl rfl rfl rfl rfl rfl (show 0 < 4 by decide) rfl rfl (fun e he => by cases he; exact Nat.lt_of_succ_le (Nat.le_of_ble_eq_true rfl)) ⟨25, 4, (pre ++ [(MWater.mk (MSpan.mk r2.flow.lo r2.flow.hi) (MSpan.mk r2.warm.lo r2.warm.hi))]).length, (pre ++ [(MWater.mk (MSpan.mk r2.flow.lo r2.flow.hi) (MSpan.mk r2.warm.lo r2.warm.hi))]).flatMap (fun x => [.int .i64 x.flow.lo, .int .i64 x.flow.hi, .int .i64 x.warm.lo, .int .i64 x.warm.hi])⟩ rfl rfl (by simp) (fun E => by simp [SV.vals, SV.val]) (Nat.le_trans g1 (by decide)) (show (pre.length + 1) * 32 ≤ 140737488355328 by have := g1; omega) rfl ?_
        clear S; intro v0 E a w S; have S := St.pickG S [54, 63, 64] [1000, 1] [0] (⟨[(54, .own 1000 0), (63, .row 1 0 1 1), (64, .gr 0)], ⟨[(1000, .blk 91 [iv (r2.flow.lo), iv (r2.flow.hi), iv (r2.warm.lo), iv (r2.warm.hi), .v (v0)]), (1, .blk 25 [iv (r2.flow.lo), iv (r2.flow.hi), iv (r2.warm.lo), iv (r2.warm.hi)])], [], [(0, ⟨25, 4, (pre ++ [(MWater.mk (MSpan.mk r2.flow.lo r2.flow.hi) (MSpan.mk r2.warm.lo r2.warm.hi))]).length, (pre ++ [(MWater.mk (MSpan.mk r2.flow.lo r2.flow.hi) (MSpan.mk r2.warm.lo r2.warm.hi))]).flatMap (fun x => [.int .i64 x.flow.lo, .int .i64 x.flow.hi, .int .i64 x.warm.lo, .int .i64 x.warm.hi])⟩)]⟩⟩) (by kernel_rfl)
        refine sym_runP lay_ok [] 11 3 [] [1000] (⟨[], ⟨[(1000, .blk 91 [iv (r2.flow.lo), iv (r2.flow.hi), iv (r2.warm.lo), iv (r2.warm.hi), .gr 0])], [], [(0, ⟨25, 4, (pre ++ [(MWater.mk (MSpan.mk r2.flow.lo r2.flow.hi) (MSpan.mk r2.warm.lo r2.warm.hi))]).length, (pre ++ [(MWater.mk (MSpan.mk r2.flow.lo r2.flow.hi) (MSpan.mk r2.warm.lo r2.warm.hi))]).flatMap (fun x => [.int .i64 x.flow.lo, .int .i64 x.flow.hi, .int .i64 x.warm.lo, .int .i64 x.warm.hi])⟩)]⟩⟩) [] S (by kernel_rfl) (by kernel_rfl) trivial ?_
        clear S; intro E a w S
        refine sym_done rfl ?_
        refine out_then_normal ?_
        have S := St.pickG S [] [1000] [0] (⟨[], ⟨[(1000, .blk 91 [iv (r2.flow.lo), iv (r2.flow.hi), iv (r2.warm.lo), iv (r2.warm.hi), .gr 0])], [], [(0, ⟨25, 4, (pre ++ [(MWater.mk (MSpan.mk r2.flow.lo r2.flow.hi) (MSpan.mk r2.warm.lo r2.warm.hi))]).length, (pre ++ [(MWater.mk (MSpan.mk r2.flow.lo r2.flow.hi) (MSpan.mk r2.warm.lo r2.warm.hi))]).flatMap (fun x => [.int .i64 x.flow.lo, .int .i64 x.flow.hi, .int .i64 x.warm.lo, .int .i64 x.warm.hi])⟩)]⟩⟩) (by kernel_rfl)
        refine sym_seq lay_ok mixed [] [4] [1000] (⟨[(4, iv (0))], ⟨[(1000, .blk 91 [iv (r2.flow.lo), iv (r2.flow.hi), iv (r2.warm.lo), iv (r2.warm.hi), .gr 0])], [], [(0, ⟨25, 4, (pre ++ [(MWater.mk (MSpan.mk r2.flow.lo r2.flow.hi) (MSpan.mk r2.warm.lo r2.warm.hi))]).length, (pre ++ [(MWater.mk (MSpan.mk r2.flow.lo r2.flow.hi) (MSpan.mk r2.warm.lo r2.warm.hi))]).flatMap (fun x => [.int .i64 x.flow.lo, .int .i64 x.flow.hi, .int .i64 x.warm.lo, .int .i64 x.warm.hi])⟩)]⟩⟩) [] S (by kernel_rfl) (by kernel_rfl) (by kernel_rfl) trivial ?_
        clear S; intro E a w S
        refine wp_ret ?_
        have h := Option.some.inj h
        subst h
        exact sym_ret lay_ok [iv (0)] (by kernel_rfl) rfl S ⟨rfl, pass_end S rfl rfl rfl rfl rfl⟩
def pass2 (c : MWater) (pre : List MWater) (p : MPoint) : Option (MWater × List MWater × Int) :=
(stream_add_valid (MAdd.mk (MSpan.mk p.heat.lo p.heat.hi))).bind fun (r1 : Bool) =>
(bif (!r1) then
(some ((MWater.mk (MSpan.mk c.flow.lo c.flow.hi) (MSpan.mk c.warm.lo c.warm.hi)), pre, 1))
else
((stream_add_behind (MAdd.mk (MSpan.mk p.heat.lo p.heat.hi)) (MWater.mk (MSpan.mk c.flow.lo c.flow.hi) (MSpan.mk c.warm.lo c.warm.hi))).bind fun (r2 : MWater) =>
(bif decide (r2.flow.lo < 1) then
(some ((MWater.mk (MSpan.mk r2.flow.lo r2.flow.hi) (MSpan.mk r2.warm.lo r2.warm.hi)), pre, 10))
else
((bif (decide (1073741824 < r2.flow.hi) || decide (100000 < r2.warm.hi)) then
(some ((MWater.mk (MSpan.mk r2.flow.lo r2.flow.hi) (MSpan.mk r2.warm.lo r2.warm.hi)), pre, 12))
else
(grd ((pre.length + 1 ≤ 1000000)) <|
some ((MWater.mk (MSpan.mk r2.flow.lo r2.flow.hi) (MSpan.mk r2.warm.lo r2.warm.hi)), (pre ++ [(MWater.mk (MSpan.mk r2.flow.lo r2.flow.hi) (MSpan.mk r2.warm.lo r2.warm.hi))]), 0)))))))
set_option maxRecDepth 100000 in
set_option maxHeartbeats 4000000 in
theorem pass2_ok (c : MWater) (pre : List MWater) (p : MPoint) (W : World) (b : Nat) (V : Value) (hB : Blk W b 91 #[.int .i64 c.flow.lo, .int .i64 c.flow.hi, .int .i64 c.warm.lo, .int .i64 c.warm.hi, V]) (hG : GrAt W 0 (wGQ pre) V) (hV : V.ownBlock ≠ some b) (res : MWater × List MWater × Int) (h : pass2 c pre p = some res) :
    Calls Go.Proofs.Try.prog 54 #[.pointer (some ⟨b, 0, none⟩), .agg #[.int .i64 2, .int .i64 p.flow.lo, .int .i64 p.flow.hi, .int .i64 p.warm.lo, .int .i64 p.warm.hi, .int .i64 p.heat.lo, .int .i64 p.heat.hi, .int .i64 p.share.lo, .int .i64 p.share.hi]] W fun e w' => e = .returned (.int .i64 res.2.2) ∧ Passed b V res.1 res.2.1 W w' := by
  refine sym_closure_g (f := 54) (fn := Go.Proofs.Try.f54) (c := Go.Proofs.Try.f54.body.get rfl) Go.Proofs.Try.func54 rfl [.own 1000 0, .agg [iv (2), iv (p.flow.lo), iv (p.flow.hi), iv (p.warm.lo), iv (p.warm.hi), iv (p.heat.lo), iv (p.heat.hi), iv (p.share.lo), iv (p.share.hi)]] [⟨1000, b, 91, [iv (c.flow.lo), iv (c.flow.hi), iv (c.warm.lo), iv (c.warm.hi), .gr 0]⟩] [(1000, .blk 91 [iv (c.flow.lo), iv (c.flow.hi), iv (c.warm.lo), iv (c.warm.hi), .gr 0])] rfl ⟨25, 4, pre.length, pre.flatMap (fun x => [.int .i64 x.flow.lo, .int .i64 x.flow.hi, .int .i64 x.warm.lo, .int .i64 x.warm.hi])⟩ V (by kernel_rfl) ⟨hB, trivial⟩ ⟨trivial, trivial⟩ hG (fun k hk => ⟨fun (e : k = b) => hV (e ▸ hk), trivial⟩) fun E a w S => ?_
  rw [pass2] at h
  refine sym_seq lay_ok mixed [(0, { g := 0 })] [0, 3] [1000, 0] (⟨[(0, .own 1000 0), (3, .own 0 0)], ⟨[(1000, .blk 91 [iv (c.flow.lo), iv (c.flow.hi), iv (c.warm.lo), iv (c.warm.hi), .gr 0]), (0, .blk 47 [iv (2), iv (p.flow.lo), iv (p.flow.hi), iv (p.warm.lo), iv (p.warm.hi), iv (p.heat.lo), iv (p.heat.hi), iv (p.share.lo), iv (p.share.hi)])], [], [(0, ⟨25, 4, pre.length, pre.flatMap (fun x => [.int .i64 x.flow.lo, .int .i64 x.flow.hi, .int .i64 x.warm.lo, .int .i64 x.warm.hi])⟩)]⟩⟩) [] S (by kernel_rfl) (by kernel_rfl) (by kernel_rfl) trivial ?_
  clear S; intro E a w S
  refine sym_seq lay_ok mixed [(1, { res := .tup [.v (.iface 118 (.agg #[.int .i64 p.heat.lo, .int .i64 p.heat.hi])), .v (.bool true)] })] [0, 5, 6] [1000] (⟨[(0, .own 1000 0), (5, .v (.iface 118 (.agg #[.int .i64 p.heat.lo, .int .i64 p.heat.hi]))), (6, .v (.bool true))], ⟨[(1000, .blk 91 [iv (c.flow.lo), iv (c.flow.hi), iv (c.warm.lo), iv (c.warm.hi), .gr 0])], [], [(0, ⟨25, 4, pre.length, pre.flatMap (fun x => [.int .i64 x.flow.lo, .int .i64 x.flow.hi, .int .i64 x.warm.lo, .int .i64 x.warm.hi])⟩)]⟩⟩) [.call ⟨[], [], [(0, ⟨25, 4, pre.length, pre.flatMap (fun x => [.int .i64 x.flow.lo, .int .i64 x.flow.hi, .int .i64 x.warm.lo, .int .i64 x.warm.hi])⟩)]⟩ 65 [.agg [iv (2), iv (p.flow.lo), iv (p.flow.hi), iv (p.warm.lo), iv (p.warm.hi), iv (p.heat.lo), iv (p.heat.hi), iv (p.share.lo), iv (p.share.hi)]] (.tup [.v (.iface 118 (.agg #[.int .i64 p.heat.lo, .int .i64 p.heat.hi])), .v (.bool true)])] S (by kernel_rfl) (by kernel_rfl) (by kernel_rfl) ⟨⟨enters_65, fun _ W _ _ => pointOf2_ok (MPoint.mk 2 (MSpan.mk p.flow.lo p.flow.hi) (MSpan.mk p.warm.lo p.warm.hi) (MSpan.mk p.heat.lo p.heat.hi) (MSpan.mk p.share.lo p.share.hi)) W⟩, trivial⟩ ?_
  clear S; intro E a w S
  refine wp_seq ?_
  obtain ⟨r1, e1, h⟩ := bind_some h
  refine sym_seq lay_ok mixed [(4, { res := .v (.bool r1), pf := some (94, [.agg [iv (p.heat.lo), iv (p.heat.hi)]]) })] [0, 5, 18] [1000] (⟨[(0, .own 1000 0), (5, .v (.iface 118 (.agg #[.int .i64 p.heat.lo, .int .i64 p.heat.hi]))), (18, .v (.bool (!r1)))], ⟨[(1000, .blk 91 [iv (c.flow.lo), iv (c.flow.hi), iv (c.warm.lo), iv (c.warm.hi), .gr 0])], [], [(0, ⟨25, 4, pre.length, pre.flatMap (fun x => [.int .i64 x.flow.lo, .int .i64 x.flow.hi, .int .i64 x.warm.lo, .int .i64 x.warm.hi])⟩)]⟩⟩) [.call ⟨[], [], [(0, ⟨25, 4, pre.length, pre.flatMap (fun x => [.int .i64 x.flow.lo, .int .i64 x.flow.hi, .int .i64 x.warm.lo, .int .i64 x.warm.hi])⟩)]⟩ 94 [.agg [iv (p.heat.lo), iv (p.heat.hi)]] (.v (.bool r1)), .ent (.call ⟨.invoke (.tmp 15) "wormtub/stream.valid", #[], #[]⟩) [.v (.iface 118 (.agg #[.int .i64 p.heat.lo, .int .i64 p.heat.hi]))] 94 [.agg [iv (p.heat.lo), iv (p.heat.hi)]]] S (by kernel_rfl) (by kernel_rfl) (by kernel_rfl) ⟨⟨enters_94, fun _ W _ hm => stream_add_valid_ok (MAdd.mk (MSpan.mk p.heat.lo p.heat.hi)) W r1 e1⟩, ent_invoke (fun _ => rfl) (fun _ => by kernel_rfl) enters_94, trivial⟩ ?_
  clear S; intro E a w S
  refine sym_if_last (b := (!r1)) S rfl (fun hb1 => ?_) (fun hb1 => ?_)
  · have h := bif_t hb1 h
    refine sym_seq lay_ok mixed [] [4] [1000] (⟨[(4, iv (1))], ⟨[(1000, .blk 91 [iv (c.flow.lo), iv (c.flow.hi), iv (c.warm.lo), iv (c.warm.hi), .gr 0])], [], [(0, ⟨25, 4, pre.length, pre.flatMap (fun x => [.int .i64 x.flow.lo, .int .i64 x.flow.hi, .int .i64 x.warm.lo, .int .i64 x.warm.hi])⟩)]⟩⟩) [] S (by kernel_rfl) (by kernel_rfl) (by kernel_rfl) trivial ?_
    clear S; intro E a w S
    refine wp_ret ?_
    refine out_then_ret ?_
    have h := Option.some.inj h
    subst h
    exact sym_ret lay_ok [iv (1)] (by kernel_rfl) rfl S ⟨rfl, pass_end S rfl rfl rfl rfl rfl⟩
  · have h := bif_f hb1 h
    refine wp_skip ?_
    refine out_then_normal ?_
    obtain ⟨r2, e2, h⟩ := bind_some h
    refine sym_seq lay_ok mixed [(6, { px := some (.v (.func (.method "wormtub/stream.behind") #[.iface 118 (.agg #[.int .i64 p.heat.lo, .int .i64 p.heat.hi])] #[])) }), (7, { px := some (.v (.func (.method "wormtub/stream.behind") #[.iface 118 (.agg #[.int .i64 p.heat.lo, .int .i64 p.heat.hi])] #[])) }), (9, { res := .agg [iv (r2.flow.lo), iv (r2.flow.hi), iv (r2.warm.lo), iv (r2.warm.hi)], pf := some (93, [.agg [iv (p.heat.lo), iv (p.heat.hi)], .agg [iv (c.flow.lo), iv (c.flow.hi), iv (c.warm.lo), iv (c.warm.hi)]]) })] [0] [1000] (⟨[(0, .own 1000 0)], ⟨[(1000, .blk 91 [iv (r2.flow.lo), iv (r2.flow.hi), iv (r2.warm.lo), iv (r2.warm.hi), .gr 0])], [], [(0, ⟨25, 4, pre.length, pre.flatMap (fun x => [.int .i64 x.flow.lo, .int .i64 x.flow.hi, .int .i64 x.warm.lo, .int .i64 x.warm.hi])⟩)]⟩⟩) [.pure ⟨[], [], [(0, ⟨25, 4, pre.length, pre.flatMap (fun x => [.int .i64 x.flow.lo, .int .i64 x.flow.hi, .int .i64 x.warm.lo, .int .i64 x.warm.hi])⟩)]⟩ (.makeFunc (.method "wormtub/stream.behind") #[.tmp 20] #[]) [.v (.iface 118 (.agg #[.int .i64 p.heat.lo, .int .i64 p.heat.hi]))] (.v (.func (.method "wormtub/stream.behind") #[.iface 118 (.agg #[.int .i64 p.heat.lo, .int .i64 p.heat.hi])] #[])), .pure ⟨[], [], [(0, ⟨25, 4, pre.length, pre.flatMap (fun x => [.int .i64 x.flow.lo, .int .i64 x.flow.hi, .int .i64 x.warm.lo, .int .i64 x.warm.hi])⟩)]⟩ (.nilCheck (.tmp 25)) [.v (.func (.method "wormtub/stream.behind") #[.iface 118 (.agg #[.int .i64 p.heat.lo, .int .i64 p.heat.hi])] #[])] (.v (.func (.method "wormtub/stream.behind") #[.iface 118 (.agg #[.int .i64 p.heat.lo, .int .i64 p.heat.hi])] #[])), .call ⟨[], [], [(0, ⟨25, 4, pre.length, pre.flatMap (fun x => [.int .i64 x.flow.lo, .int .i64 x.flow.hi, .int .i64 x.warm.lo, .int .i64 x.warm.hi])⟩)]⟩ 93 [.agg [iv (p.heat.lo), iv (p.heat.hi)], .agg [iv (c.flow.lo), iv (c.flow.hi), iv (c.warm.lo), iv (c.warm.hi)]] (.agg [iv (r2.flow.lo), iv (r2.flow.hi), iv (r2.warm.lo), iv (r2.warm.hi)]), .ent (.call ⟨.invoke (.tmp 27) "wormtub/stream.behind", #[.tmp 24], #[25]⟩) [.v (.iface 118 (.agg #[.int .i64 p.heat.lo, .int .i64 p.heat.hi])), .agg [iv (c.flow.lo), iv (c.flow.hi), iv (c.warm.lo), iv (c.warm.hi)]] 93 [.agg [iv (p.heat.lo), iv (p.heat.hi)], .agg [iv (c.flow.lo), iv (c.flow.hi), iv (c.warm.lo), iv (c.warm.hi)]]] S (by kernel_rfl) (by kernel_rfl) (by kernel_rfl) ⟨pure_method, pure_nilMethod (fun _ => by kernel_rfl), ⟨enters_93, fun _ W _ hm => stream_add_behind_ok (MAdd.mk (MSpan.mk p.heat.lo p.heat.hi)) (MWater.mk (MSpan.mk c.flow.lo c.flow.hi) (MSpan.mk c.warm.lo c.warm.hi)) W r2 e2⟩, ent_invoke (fun _ => rfl) (fun _ => by kernel_rfl) enters_93, trivial⟩ ?_
    clear S; intro E a w S
    refine wp_seq ?_
    refine sym_seq lay_ok mixed [] [0, 37] [1000] (⟨[(0, .own 1000 0), (37, .v (.bool (decide (r2.flow.lo < 1))))], ⟨[(1000, .blk 91 [iv (r2.flow.lo), iv (r2.flow.hi), iv (r2.warm.lo), iv (r2.warm.hi), .gr 0])], [], [(0, ⟨25, 4, pre.length, pre.flatMap (fun x => [.int .i64 x.flow.lo, .int .i64 x.flow.hi, .int .i64 x.warm.lo, .int .i64 x.warm.hi])⟩)]⟩⟩) [] S (by kernel_rfl) (by kernel_rfl) (by kernel_rfl) trivial ?_
    clear S; intro E a w S
    refine sym_if_last (b := decide (r2.flow.lo < 1)) S rfl (fun hb2 => ?_) (fun hb2 => ?_)
    · have h := bif_t hb2 h
      refine sym_seq lay_ok mixed [] [4] [1000] (⟨[(4, iv (10))], ⟨[(1000, .blk 91 [iv (r2.flow.lo), iv (r2.flow.hi), iv (r2.warm.lo), iv (r2.warm.hi), .gr 0])], [], [(0, ⟨25, 4, pre.length, pre.flatMap (fun x => [.int .i64 x.flow.lo, .int .i64 x.flow.hi, .int .i64 x.warm.lo, .int .i64 x.warm.hi])⟩)]⟩⟩) [] S (by kernel_rfl) (by kernel_rfl) (by kernel_rfl) trivial ?_
      clear S; intro E a w S
      refine wp_ret ?_
      refine out_then_ret ?_
      have h := Option.some.inj h
      subst h
      exact sym_ret lay_ok [iv (10)] (by kernel_rfl) rfl S ⟨rfl, pass_end S rfl rfl rfl rfl rfl⟩
    · have h := bif_f hb2 h
      refine wp_skip ?_
      refine out_then_normal ?_
      refine wp_seq ?_
      refine sym_seq lay_ok mixed [(8, { og := true }), (9, { og := true }), (10, { og := true }), (11, { og := true }), (12, { og := true }), (13, { og := true }), (14, { og := true }), (15, { pk := true })] [0, 53] [1000] (⟨[(0, .own 1000 0), (53, .v (.bool (decide (1073741824 < r2.flow.hi) || decide (100000 < r2.warm.hi))))], ⟨[(1000, .blk 91 [iv (r2.flow.lo), iv (r2.flow.hi), iv (r2.warm.lo), iv (r2.warm.hi), .gr 0])], [], [(0, ⟨25, 4, pre.length, pre.flatMap (fun x => [.int .i64 x.flow.lo, .int .i64 x.flow.hi, .int .i64 x.warm.lo, .int .i64 x.warm.hi])⟩)]⟩⟩) [.imp (!(decide (1073741824 < r2.flow.hi))) (!(decide (1073741824 < r2.flow.hi))), .imp (!(decide (1073741824 < r2.flow.hi))) (!(decide (1073741824 < r2.flow.hi))), .imp (!(decide (1073741824 < r2.flow.hi))) (!(decide (1073741824 < r2.flow.hi))), .imp (!(decide (1073741824 < r2.flow.hi))) (!(decide (1073741824 < r2.flow.hi))), .imp (!(decide (1073741824 < r2.flow.hi))) (!(decide (1073741824 < r2.flow.hi))), .imp (!(decide (1073741824 < r2.flow.hi))) (!(decide (1073741824 < r2.flow.hi))), .imp (!(decide (1073741824 < r2.flow.hi))) (!(decide (1073741824 < r2.flow.hi)))] S (by kernel_rfl) (by kernel_rfl) (by kernel_rfl) ⟨fun h => h, fun h => h, fun h => h, fun h => h, fun h => h, fun h => h, fun h => h, trivial⟩ ?_
      clear S; intro E a w S
      refine sym_if_last (b := (decide (1073741824 < r2.flow.hi) || decide (100000 < r2.warm.hi))) S rfl (fun hb3 => ?_) (fun hb3 => ?_)
      · have h := bif_t hb3 h
        refine sym_seq lay_ok mixed [] [4] [1000] (⟨[(4, iv (12))], ⟨[(1000, .blk 91 [iv (r2.flow.lo), iv (r2.flow.hi), iv (r2.warm.lo), iv (r2.warm.hi), .gr 0])], [], [(0, ⟨25, 4, pre.length, pre.flatMap (fun x => [.int .i64 x.flow.lo, .int .i64 x.flow.hi, .int .i64 x.warm.lo, .int .i64 x.warm.hi])⟩)]⟩⟩) [] S (by kernel_rfl) (by kernel_rfl) (by kernel_rfl) trivial ?_
        clear S; intro E a w S
        refine wp_ret ?_
        refine out_then_ret ?_
        have h := Option.some.inj h
        subst h
        exact sym_ret lay_ok [iv (12)] (by kernel_rfl) rfl S ⟨rfl, pass_end S rfl rfl rfl rfl rfl⟩
      · have h := bif_f hb3 h
        refine wp_skip ?_
        refine out_then_normal ?_
        obtain ⟨g1, h⟩ := grd_some h
        refine wp_seq ?_
        refine sym_region_cutP lay_ok mixed [(9, { g := 1 })] 10 [54, 58, 63] [1000, 1] (⟨[(54, .own 1000 0), (58, .gr 0), (63, .row 1 0 1 1)], ⟨[(1000, .blk 91 [iv (r2.flow.lo), iv (r2.flow.hi), iv (r2.warm.lo), iv (r2.warm.hi), .gr 0]), (1, .blk 25 [iv (r2.flow.lo), iv (r2.flow.hi), iv (r2.warm.lo), iv (r2.warm.hi)])], [], [(0, ⟨25, 4, pre.length, pre.flatMap (fun x => [.int .i64 x.flow.lo, .int .i64 x.flow.hi, .int .i64 x.warm.lo, .int .i64 x.warm.hi])⟩)]⟩⟩) [] S (by kernel_rfl) (by kernel_rfl) (by kernel_rfl) trivial (by intro c d v a w h; cases d <;> exact h) ?_
        clear S; intro E a w S
        refine sym_append lay_ok rfl (.tmp 58) (.tmp 63) 29 rfl rfl S 0 1 0 1 1 25 [iv (r2.flow.lo), iv (r2.flow.hi), iv (r2.warm.lo), iv (r2.warm.hi)] ⟨25, 4, pre.length, pre.flatMap (fun x => [.int .i64 x.flow.lo, .int .i64 x.flow.hi, .int .i64 x.warm.lo, .int .i64 x.warm.hi])⟩ ⟨.str [(0, 2, true), (2, 2, true)], 4, [.int .i64 0, .int .i64 0, .int .i64 0, .int .i64 0], true, 32⟩ ⟨.sli 25 4, 1, [.slice none 0 0], false, 24⟩ rfl rfl rfl rfl rfl rfl rfl rfl (show 0 < 4 by decide) rfl rfl (fun e he => by cases he; exact Nat.lt_of_succ_le (Nat.le_of_ble_eq_true rfl)) ⟨25, 4, (pre ++ [(MWater.mk (MSpan.mk r2.flow.lo r2.flow.hi) (MSpan.mk r2.warm.lo r2.warm.hi))]).length, (pre ++ [(MWater.mk (MSpan.mk r2.flow.lo r2.flow.hi) (MSpan.mk r2.warm.lo r2.warm.hi))]).flatMap (fun x => [.int .i64 x.flow.lo, .int .i64 x.flow.hi, .int .i64 x.warm.lo, .int .i64 x.warm.hi])⟩ rfl rfl (by simp) (fun E => by simp [SV.vals, SV.val]) (Nat.le_trans g1 (by decide)) (show (pre.length + 1) * 32 ≤ 140737488355328 by have := g1; omega) rfl ?_
        clear S; intro v0 E a w S; have S := St.pickG S [54, 63, 64] [1000, 1] [0] (⟨[(54, .own 1000 0), (63, .row 1 0 1 1), (64, .gr 0)], ⟨[(1000, .blk 91 [iv (r2.flow.lo), iv (r2.flow.hi), iv (r2.warm.lo), iv (r2.warm.hi), .v (v0)]), (1, .blk 25 [iv (r2.flow.lo), iv (r2.flow.hi), iv (r2.warm.lo), iv (r2.warm.hi)])], [], [(0, ⟨25, 4, (pre ++ [(MWater.mk (MSpan.mk r2.flow.lo r2.flow.hi) (MSpan.mk r2.warm.lo r2.warm.hi))]).length, (pre ++ [(MWater.mk (MSpan.mk r2.flow.lo r2.flow.hi) (MSpan.mk r2.warm.lo r2.warm.hi))]).flatMap (fun x => [.int .i64 x.flow.lo, .int .i64 x.flow.hi, .int .i64 x.warm.lo, .int .i64 x.warm.hi])⟩)]⟩⟩) (by kernel_rfl)
        refine sym_runP lay_ok [] 11 3 [] [1000] (⟨[], ⟨[(1000, .blk 91 [iv (r2.flow.lo), iv (r2.flow.hi), iv (r2.warm.lo), iv (r2.warm.hi), .gr 0])], [], [(0, ⟨25, 4, (pre ++ [(MWater.mk (MSpan.mk r2.flow.lo r2.flow.hi) (MSpan.mk r2.warm.lo r2.warm.hi))]).length, (pre ++ [(MWater.mk (MSpan.mk r2.flow.lo r2.flow.hi) (MSpan.mk r2.warm.lo r2.warm.hi))]).flatMap (fun x => [.int .i64 x.flow.lo, .int .i64 x.flow.hi, .int .i64 x.warm.lo, .int .i64 x.warm.hi])⟩)]⟩⟩) [] S (by kernel_rfl) (by kernel_rfl) trivial ?_
        clear S; intro E a w S
        refine sym_done rfl ?_
        refine out_then_normal ?_
        have S := St.pickG S [] [1000] [0] (⟨[], ⟨[(1000, .blk 91 [iv (r2.flow.lo), iv (r2.flow.hi), iv (r2.warm.lo), iv (r2.warm.hi), .gr 0])], [], [(0, ⟨25, 4, (pre ++ [(MWater.mk (MSpan.mk r2.flow.lo r2.flow.hi) (MSpan.mk r2.warm.lo r2.warm.hi))]).length, (pre ++ [(MWater.mk (MSpan.mk r2.flow.lo r2.flow.hi) (MSpan.mk r2.warm.lo r2.warm.hi))]).flatMap (fun x => [.int .i64 x.flow.lo, .int .i64 x.flow.hi, .int .i64 x.warm.lo, .int .i64 x.warm.hi])⟩)]⟩⟩) (by kernel_rfl)
        refine sym_seq lay_ok mixed [] [4] [1000] (⟨[(4, iv (0))], ⟨[(1000, .blk 91 [iv (r2.flow.lo), iv (r2.flow.hi), iv (r2.warm.lo), iv (r2.warm.hi), .gr 0])], [], [(0, ⟨25, 4, (pre ++ [(MWater.mk (MSpan.mk r2.flow.lo r2.flow.hi) (MSpan.mk r2.warm.lo r2.warm.hi))]).length, (pre ++ [(MWater.mk (MSpan.mk r2.flow.lo r2.flow.hi) (MSpan.mk r2.warm.lo r2.warm.hi))]).flatMap (fun x => [.int .i64 x.flow.lo, .int .i64 x.flow.hi, .int .i64 x.warm.lo, .int .i64 x.warm.hi])⟩)]⟩⟩) [] S (by kernel_rfl) (by kernel_rfl) (by kernel_rfl) trivial ?_
        clear S; intro E a w S
        refine wp_ret ?_
        have h := Option.some.inj h
        subst h
        exact sym_ret lay_ok [iv (0)] (by kernel_rfl) rfl S ⟨rfl, pass_end S rfl rfl rfl rfl rfl⟩
def pass3 (c : MWater) (pre : List MWater) (p : MPoint) : Option (MWater × List MWater × Int) :=
(stream_air_valid (MAir.mk (MSpan.mk p.warm.lo p.warm.hi) (MSpan.mk p.share.lo p.share.hi))).bind fun (r1 : Bool) =>
(bif (!r1) then
(some ((MWater.mk (MSpan.mk c.flow.lo c.flow.hi) (MSpan.mk c.warm.lo c.warm.hi)), pre, 1))
else
((stream_air_behind (MAir.mk (MSpan.mk p.warm.lo p.warm.hi) (MSpan.mk p.share.lo p.share.hi)) (MWater.mk (MSpan.mk c.flow.lo c.flow.hi) (MSpan.mk c.warm.lo c.warm.hi))).bind fun (r2 : MWater) =>
(bif decide (r2.flow.lo < 1) then
(some ((MWater.mk (MSpan.mk r2.flow.lo r2.flow.hi) (MSpan.mk r2.warm.lo r2.warm.hi)), pre, 10))
else
((bif (decide (1073741824 < r2.flow.hi) || decide (100000 < r2.warm.hi)) then
(some ((MWater.mk (MSpan.mk r2.flow.lo r2.flow.hi) (MSpan.mk r2.warm.lo r2.warm.hi)), pre, 12))
else
(grd ((pre.length + 1 ≤ 1000000)) <|
some ((MWater.mk (MSpan.mk r2.flow.lo r2.flow.hi) (MSpan.mk r2.warm.lo r2.warm.hi)), (pre ++ [(MWater.mk (MSpan.mk r2.flow.lo r2.flow.hi) (MSpan.mk r2.warm.lo r2.warm.hi))]), 0)))))))
set_option maxRecDepth 100000 in
set_option maxHeartbeats 4000000 in
theorem pass3_ok (c : MWater) (pre : List MWater) (p : MPoint) (W : World) (b : Nat) (V : Value) (hB : Blk W b 91 #[.int .i64 c.flow.lo, .int .i64 c.flow.hi, .int .i64 c.warm.lo, .int .i64 c.warm.hi, V]) (hG : GrAt W 0 (wGQ pre) V) (hV : V.ownBlock ≠ some b) (res : MWater × List MWater × Int) (h : pass3 c pre p = some res) :
    Calls Go.Proofs.Try.prog 54 #[.pointer (some ⟨b, 0, none⟩), .agg #[.int .i64 3, .int .i64 p.flow.lo, .int .i64 p.flow.hi, .int .i64 p.warm.lo, .int .i64 p.warm.hi, .int .i64 p.heat.lo, .int .i64 p.heat.hi, .int .i64 p.share.lo, .int .i64 p.share.hi]] W fun e w' => e = .returned (.int .i64 res.2.2) ∧ Passed b V res.1 res.2.1 W w' := by
  refine sym_closure_g (f := 54) (fn := Go.Proofs.Try.f54) (c := Go.Proofs.Try.f54.body.get rfl) Go.Proofs.Try.func54 rfl [.own 1000 0, .agg [iv (3), iv (p.flow.lo), iv (p.flow.hi), iv (p.warm.lo), iv (p.warm.hi), iv (p.heat.lo), iv (p.heat.hi), iv (p.share.lo), iv (p.share.hi)]] [⟨1000, b, 91, [iv (c.flow.lo), iv (c.flow.hi), iv (c.warm.lo), iv (c.warm.hi), .gr 0]⟩] [(1000, .blk 91 [iv (c.flow.lo), iv (c.flow.hi), iv (c.warm.lo), iv (c.warm.hi), .gr 0])] rfl ⟨25, 4, pre.length, pre.flatMap (fun x => [.int .i64 x.flow.lo, .int .i64 x.flow.hi, .int .i64 x.warm.lo, .int .i64 x.warm.hi])⟩ V (by kernel_rfl) ⟨hB, trivial⟩ ⟨trivial, trivial⟩ hG (fun k hk => ⟨fun (e : k = b) => hV (e ▸ hk), trivial⟩) fun E a w S => ?_
  rw [pass3] at h
  refine sym_seq lay_ok mixed [(0, { g := 0 })] [0, 3] [1000, 0] (⟨[(0, .own 1000 0), (3, .own 0 0)], ⟨[(1000, .blk 91 [iv (c.flow.lo), iv (c.flow.hi), iv (c.warm.lo), iv (c.warm.hi), .gr 0]), (0, .blk 47 [iv (3), iv (p.flow.lo), iv (p.flow.hi), iv (p.warm.lo), iv (p.warm.hi), iv (p.heat.lo), iv (p.heat.hi), iv (p.share.lo), iv (p.share.hi)])], [], [(0, ⟨25, 4, pre.length, pre.flatMap (fun x => [.int .i64 x.flow.lo, .int .i64 x.flow.hi, .int .i64 x.warm.lo, .int .i64 x.warm.hi])⟩)]⟩⟩) [] S (by kernel_rfl) (by kernel_rfl) (by kernel_rfl) trivial ?_
  clear S; intro E a w S
  refine sym_seq lay_ok mixed [(1, { res := .tup [.v (.iface 120 (.agg #[.int .i64 p.warm.lo, .int .i64 p.warm.hi, .int .i64 p.share.lo, .int .i64 p.share.hi])), .v (.bool true)] })] [0, 5, 6] [1000] (⟨[(0, .own 1000 0), (5, .v (.iface 120 (.agg #[.int .i64 p.warm.lo, .int .i64 p.warm.hi, .int .i64 p.share.lo, .int .i64 p.share.hi]))), (6, .v (.bool true))], ⟨[(1000, .blk 91 [iv (c.flow.lo), iv (c.flow.hi), iv (c.warm.lo), iv (c.warm.hi), .gr 0])], [], [(0, ⟨25, 4, pre.length, pre.flatMap (fun x => [.int .i64 x.flow.lo, .int .i64 x.flow.hi, .int .i64 x.warm.lo, .int .i64 x.warm.hi])⟩)]⟩⟩) [.call ⟨[], [], [(0, ⟨25, 4, pre.length, pre.flatMap (fun x => [.int .i64 x.flow.lo, .int .i64 x.flow.hi, .int .i64 x.warm.lo, .int .i64 x.warm.hi])⟩)]⟩ 65 [.agg [iv (3), iv (p.flow.lo), iv (p.flow.hi), iv (p.warm.lo), iv (p.warm.hi), iv (p.heat.lo), iv (p.heat.hi), iv (p.share.lo), iv (p.share.hi)]] (.tup [.v (.iface 120 (.agg #[.int .i64 p.warm.lo, .int .i64 p.warm.hi, .int .i64 p.share.lo, .int .i64 p.share.hi])), .v (.bool true)])] S (by kernel_rfl) (by kernel_rfl) (by kernel_rfl) ⟨⟨enters_65, fun _ W _ _ => pointOf3_ok (MPoint.mk 3 (MSpan.mk p.flow.lo p.flow.hi) (MSpan.mk p.warm.lo p.warm.hi) (MSpan.mk p.heat.lo p.heat.hi) (MSpan.mk p.share.lo p.share.hi)) W⟩, trivial⟩ ?_
  clear S; intro E a w S
  refine wp_seq ?_
  obtain ⟨r1, e1, h⟩ := bind_some h
  refine sym_seq lay_ok mixed [(4, { res := .v (.bool r1), pf := some (96, [.agg [iv (p.warm.lo), iv (p.warm.hi), iv (p.share.lo), iv (p.share.hi)]]) })] [0, 5, 18] [1000] (⟨[(0, .own 1000 0), (5, .v (.iface 120 (.agg #[.int .i64 p.warm.lo, .int .i64 p.warm.hi, .int .i64 p.share.lo, .int .i64 p.share.hi]))), (18, .v (.bool (!r1)))], ⟨[(1000, .blk 91 [iv (c.flow.lo), iv (c.flow.hi), iv (c.warm.lo), iv (c.warm.hi), .gr 0])], [], [(0, ⟨25, 4, pre.length, pre.flatMap (fun x => [.int .i64 x.flow.lo, .int .i64 x.flow.hi, .int .i64 x.warm.lo, .int .i64 x.warm.hi])⟩)]⟩⟩) [.call ⟨[], [], [(0, ⟨25, 4, pre.length, pre.flatMap (fun x => [.int .i64 x.flow.lo, .int .i64 x.flow.hi, .int .i64 x.warm.lo, .int .i64 x.warm.hi])⟩)]⟩ 96 [.agg [iv (p.warm.lo), iv (p.warm.hi), iv (p.share.lo), iv (p.share.hi)]] (.v (.bool r1)), .ent (.call ⟨.invoke (.tmp 15) "wormtub/stream.valid", #[], #[]⟩) [.v (.iface 120 (.agg #[.int .i64 p.warm.lo, .int .i64 p.warm.hi, .int .i64 p.share.lo, .int .i64 p.share.hi]))] 96 [.agg [iv (p.warm.lo), iv (p.warm.hi), iv (p.share.lo), iv (p.share.hi)]]] S (by kernel_rfl) (by kernel_rfl) (by kernel_rfl) ⟨⟨enters_96, fun _ W _ hm => stream_air_valid_ok (MAir.mk (MSpan.mk p.warm.lo p.warm.hi) (MSpan.mk p.share.lo p.share.hi)) W r1 e1⟩, ent_invoke (fun _ => rfl) (fun _ => by kernel_rfl) enters_96, trivial⟩ ?_
  clear S; intro E a w S
  refine sym_if_last (b := (!r1)) S rfl (fun hb1 => ?_) (fun hb1 => ?_)
  · have h := bif_t hb1 h
    refine sym_seq lay_ok mixed [] [4] [1000] (⟨[(4, iv (1))], ⟨[(1000, .blk 91 [iv (c.flow.lo), iv (c.flow.hi), iv (c.warm.lo), iv (c.warm.hi), .gr 0])], [], [(0, ⟨25, 4, pre.length, pre.flatMap (fun x => [.int .i64 x.flow.lo, .int .i64 x.flow.hi, .int .i64 x.warm.lo, .int .i64 x.warm.hi])⟩)]⟩⟩) [] S (by kernel_rfl) (by kernel_rfl) (by kernel_rfl) trivial ?_
    clear S; intro E a w S
    refine wp_ret ?_
    refine out_then_ret ?_
    have h := Option.some.inj h
    subst h
    exact sym_ret lay_ok [iv (1)] (by kernel_rfl) rfl S ⟨rfl, pass_end S rfl rfl rfl rfl rfl⟩
  · have h := bif_f hb1 h
    refine wp_skip ?_
    refine out_then_normal ?_
    obtain ⟨r2, e2, h⟩ := bind_some h
    refine sym_seq lay_ok mixed [(6, { px := some (.v (.func (.method "wormtub/stream.behind") #[.iface 120 (.agg #[.int .i64 p.warm.lo, .int .i64 p.warm.hi, .int .i64 p.share.lo, .int .i64 p.share.hi])] #[])) }), (7, { px := some (.v (.func (.method "wormtub/stream.behind") #[.iface 120 (.agg #[.int .i64 p.warm.lo, .int .i64 p.warm.hi, .int .i64 p.share.lo, .int .i64 p.share.hi])] #[])) }), (9, { res := .agg [iv (r2.flow.lo), iv (r2.flow.hi), iv (r2.warm.lo), iv (r2.warm.hi)], pf := some (95, [.agg [iv (p.warm.lo), iv (p.warm.hi), iv (p.share.lo), iv (p.share.hi)], .agg [iv (c.flow.lo), iv (c.flow.hi), iv (c.warm.lo), iv (c.warm.hi)]]) })] [0] [1000] (⟨[(0, .own 1000 0)], ⟨[(1000, .blk 91 [iv (r2.flow.lo), iv (r2.flow.hi), iv (r2.warm.lo), iv (r2.warm.hi), .gr 0])], [], [(0, ⟨25, 4, pre.length, pre.flatMap (fun x => [.int .i64 x.flow.lo, .int .i64 x.flow.hi, .int .i64 x.warm.lo, .int .i64 x.warm.hi])⟩)]⟩⟩) [.pure ⟨[], [], [(0, ⟨25, 4, pre.length, pre.flatMap (fun x => [.int .i64 x.flow.lo, .int .i64 x.flow.hi, .int .i64 x.warm.lo, .int .i64 x.warm.hi])⟩)]⟩ (.makeFunc (.method "wormtub/stream.behind") #[.tmp 20] #[]) [.v (.iface 120 (.agg #[.int .i64 p.warm.lo, .int .i64 p.warm.hi, .int .i64 p.share.lo, .int .i64 p.share.hi]))] (.v (.func (.method "wormtub/stream.behind") #[.iface 120 (.agg #[.int .i64 p.warm.lo, .int .i64 p.warm.hi, .int .i64 p.share.lo, .int .i64 p.share.hi])] #[])), .pure ⟨[], [], [(0, ⟨25, 4, pre.length, pre.flatMap (fun x => [.int .i64 x.flow.lo, .int .i64 x.flow.hi, .int .i64 x.warm.lo, .int .i64 x.warm.hi])⟩)]⟩ (.nilCheck (.tmp 25)) [.v (.func (.method "wormtub/stream.behind") #[.iface 120 (.agg #[.int .i64 p.warm.lo, .int .i64 p.warm.hi, .int .i64 p.share.lo, .int .i64 p.share.hi])] #[])] (.v (.func (.method "wormtub/stream.behind") #[.iface 120 (.agg #[.int .i64 p.warm.lo, .int .i64 p.warm.hi, .int .i64 p.share.lo, .int .i64 p.share.hi])] #[])), .call ⟨[], [], [(0, ⟨25, 4, pre.length, pre.flatMap (fun x => [.int .i64 x.flow.lo, .int .i64 x.flow.hi, .int .i64 x.warm.lo, .int .i64 x.warm.hi])⟩)]⟩ 95 [.agg [iv (p.warm.lo), iv (p.warm.hi), iv (p.share.lo), iv (p.share.hi)], .agg [iv (c.flow.lo), iv (c.flow.hi), iv (c.warm.lo), iv (c.warm.hi)]] (.agg [iv (r2.flow.lo), iv (r2.flow.hi), iv (r2.warm.lo), iv (r2.warm.hi)]), .ent (.call ⟨.invoke (.tmp 27) "wormtub/stream.behind", #[.tmp 24], #[25]⟩) [.v (.iface 120 (.agg #[.int .i64 p.warm.lo, .int .i64 p.warm.hi, .int .i64 p.share.lo, .int .i64 p.share.hi])), .agg [iv (c.flow.lo), iv (c.flow.hi), iv (c.warm.lo), iv (c.warm.hi)]] 95 [.agg [iv (p.warm.lo), iv (p.warm.hi), iv (p.share.lo), iv (p.share.hi)], .agg [iv (c.flow.lo), iv (c.flow.hi), iv (c.warm.lo), iv (c.warm.hi)]]] S (by kernel_rfl) (by kernel_rfl) (by kernel_rfl) ⟨pure_method, pure_nilMethod (fun _ => by kernel_rfl), ⟨enters_95, fun _ W _ hm => stream_air_behind_ok (MAir.mk (MSpan.mk p.warm.lo p.warm.hi) (MSpan.mk p.share.lo p.share.hi)) (MWater.mk (MSpan.mk c.flow.lo c.flow.hi) (MSpan.mk c.warm.lo c.warm.hi)) W r2 e2⟩, ent_invoke (fun _ => rfl) (fun _ => by kernel_rfl) enters_95, trivial⟩ ?_
    clear S; intro E a w S
    refine wp_seq ?_
    refine sym_seq lay_ok mixed [] [0, 37] [1000] (⟨[(0, .own 1000 0), (37, .v (.bool (decide (r2.flow.lo < 1))))], ⟨[(1000, .blk 91 [iv (r2.flow.lo), iv (r2.flow.hi), iv (r2.warm.lo), iv (r2.warm.hi), .gr 0])], [], [(0, ⟨25, 4, pre.length, pre.flatMap (fun x => [.int .i64 x.flow.lo, .int .i64 x.flow.hi, .int .i64 x.warm.lo, .int .i64 x.warm.hi])⟩)]⟩⟩) [] S (by kernel_rfl) (by kernel_rfl) (by kernel_rfl) trivial ?_
    clear S; intro E a w S
    refine sym_if_last (b := decide (r2.flow.lo < 1)) S rfl (fun hb2 => ?_) (fun hb2 => ?_)
    · have h := bif_t hb2 h
      refine sym_seq lay_ok mixed [] [4] [1000] (⟨[(4, iv (10))], ⟨[(1000, .blk 91 [iv (r2.flow.lo), iv (r2.flow.hi), iv (r2.warm.lo), iv (r2.warm.hi), .gr 0])], [], [(0, ⟨25, 4, pre.length, pre.flatMap (fun x => [.int .i64 x.flow.lo, .int .i64 x.flow.hi, .int .i64 x.warm.lo, .int .i64 x.warm.hi])⟩)]⟩⟩) [] S (by kernel_rfl) (by kernel_rfl) (by kernel_rfl) trivial ?_
      clear S; intro E a w S
      refine wp_ret ?_
      refine out_then_ret ?_
      have h := Option.some.inj h
      subst h
      exact sym_ret lay_ok [iv (10)] (by kernel_rfl) rfl S ⟨rfl, pass_end S rfl rfl rfl rfl rfl⟩
    · have h := bif_f hb2 h
      refine wp_skip ?_
      refine out_then_normal ?_
      refine wp_seq ?_
      refine sym_seq lay_ok mixed [(8, { og := true }), (9, { og := true }), (10, { og := true }), (11, { og := true }), (12, { og := true }), (13, { og := true }), (14, { og := true }), (15, { pk := true })] [0, 53] [1000] (⟨[(0, .own 1000 0), (53, .v (.bool (decide (1073741824 < r2.flow.hi) || decide (100000 < r2.warm.hi))))], ⟨[(1000, .blk 91 [iv (r2.flow.lo), iv (r2.flow.hi), iv (r2.warm.lo), iv (r2.warm.hi), .gr 0])], [], [(0, ⟨25, 4, pre.length, pre.flatMap (fun x => [.int .i64 x.flow.lo, .int .i64 x.flow.hi, .int .i64 x.warm.lo, .int .i64 x.warm.hi])⟩)]⟩⟩) [.imp (!(decide (1073741824 < r2.flow.hi))) (!(decide (1073741824 < r2.flow.hi))), .imp (!(decide (1073741824 < r2.flow.hi))) (!(decide (1073741824 < r2.flow.hi))), .imp (!(decide (1073741824 < r2.flow.hi))) (!(decide (1073741824 < r2.flow.hi))), .imp (!(decide (1073741824 < r2.flow.hi))) (!(decide (1073741824 < r2.flow.hi))), .imp (!(decide (1073741824 < r2.flow.hi))) (!(decide (1073741824 < r2.flow.hi))), .imp (!(decide (1073741824 < r2.flow.hi))) (!(decide (1073741824 < r2.flow.hi))), .imp (!(decide (1073741824 < r2.flow.hi))) (!(decide (1073741824 < r2.flow.hi)))] S (by kernel_rfl) (by kernel_rfl) (by kernel_rfl) ⟨fun h => h, fun h => h, fun h => h, fun h => h, fun h => h, fun h => h, fun h => h, trivial⟩ ?_
      clear S; intro E a w S
      refine sym_if_last (b := (decide (1073741824 < r2.flow.hi) || decide (100000 < r2.warm.hi))) S rfl (fun hb3 => ?_) (fun hb3 => ?_)
      · have h := bif_t hb3 h
        refine sym_seq lay_ok mixed [] [4] [1000] (⟨[(4, iv (12))], ⟨[(1000, .blk 91 [iv (r2.flow.lo), iv (r2.flow.hi), iv (r2.warm.lo), iv (r2.warm.hi), .gr 0])], [], [(0, ⟨25, 4, pre.length, pre.flatMap (fun x => [.int .i64 x.flow.lo, .int .i64 x.flow.hi, .int .i64 x.warm.lo, .int .i64 x.warm.hi])⟩)]⟩⟩) [] S (by kernel_rfl) (by kernel_rfl) (by kernel_rfl) trivial ?_
        clear S; intro E a w S
        refine wp_ret ?_
        refine out_then_ret ?_
        have h := Option.some.inj h
        subst h
        exact sym_ret lay_ok [iv (12)] (by kernel_rfl) rfl S ⟨rfl, pass_end S rfl rfl rfl rfl rfl⟩
      · have h := bif_f hb3 h
        refine wp_skip ?_
        refine out_then_normal ?_
        obtain ⟨g1, h⟩ := grd_some h
        refine wp_seq ?_
        refine sym_region_cutP lay_ok mixed [(9, { g := 1 })] 10 [54, 58, 63] [1000, 1] (⟨[(54, .own 1000 0), (58, .gr 0), (63, .row 1 0 1 1)], ⟨[(1000, .blk 91 [iv (r2.flow.lo), iv (r2.flow.hi), iv (r2.warm.lo), iv (r2.warm.hi), .gr 0]), (1, .blk 25 [iv (r2.flow.lo), iv (r2.flow.hi), iv (r2.warm.lo), iv (r2.warm.hi)])], [], [(0, ⟨25, 4, pre.length, pre.flatMap (fun x => [.int .i64 x.flow.lo, .int .i64 x.flow.hi, .int .i64 x.warm.lo, .int .i64 x.warm.hi])⟩)]⟩⟩) [] S (by kernel_rfl) (by kernel_rfl) (by kernel_rfl) trivial (by intro c d v a w h; cases d <;> exact h) ?_
        clear S; intro E a w S
        refine sym_append lay_ok rfl (.tmp 58) (.tmp 63) 29 rfl rfl S 0 1 0 1 1 25 [iv (r2.flow.lo), iv (r2.flow.hi), iv (r2.warm.lo), iv (r2.warm.hi)] ⟨25, 4, pre.length, pre.flatMap (fun x => [.int .i64 x.flow.lo, .int .i64 x.flow.hi, .int .i64 x.warm.lo, .int .i64 x.warm.hi])⟩ ⟨.str [(0, 2, true), (2, 2, true)], 4, [.int .i64 0, .int .i64 0, .int .i64 0, .int .i64 0], true, 32⟩ ⟨.sli 25 4, 1, [.slice none 0 0], false, 24⟩ rfl rfl rfl rfl rfl rfl rfl rfl (show 0 < 4 by decide) rfl rfl (fun e he => by cases he; exact Nat.lt_of_succ_le (Nat.le_of_ble_eq_true rfl)) ⟨25, 4, (pre ++ [(MWater.mk (MSpan.mk r2.flow.lo r2.flow.hi) (MSpan.mk r2.warm.lo r2.warm.hi))]).length, (pre ++ [(MWater.mk (MSpan.mk r2.flow.lo r2.flow.hi) (MSpan.mk r2.warm.lo r2.warm.hi))]).flatMap (fun x => [.int .i64 x.flow.lo, .int .i64 x.flow.hi, .int .i64 x.warm.lo, .int .i64 x.warm.hi])⟩ rfl rfl (by simp) (fun E => by simp [SV.vals, SV.val]) (Nat.le_trans g1 (by decide)) (show (pre.length + 1) * 32 ≤ 140737488355328 by have := g1; omega) rfl ?_
        clear S; intro v0 E a w S; have S := St.pickG S [54, 63, 64] [1000, 1] [0] (⟨[(54, .own 1000 0), (63, .row 1 0 1 1), (64, .gr 0)], ⟨[(1000, .blk 91 [iv (r2.flow.lo), iv (r2.flow.hi), iv (r2.warm.lo), iv (r2.warm.hi), .v (v0)]), (1, .blk 25 [iv (r2.flow.lo), iv (r2.flow.hi), iv (r2.warm.lo), iv (r2.warm.hi)])], [], [(0, ⟨25, 4, (pre ++ [(MWater.mk (MSpan.mk r2.flow.lo r2.flow.hi) (MSpan.mk r2.warm.lo r2.warm.hi))]).length, (pre ++ [(MWater.mk (MSpan.mk r2.flow.lo r2.flow.hi) (MSpan.mk r2.warm.lo r2.warm.hi))]).flatMap (fun x => [.int .i64 x.flow.lo, .int .i64 x.flow.hi, .int .i64 x.warm.lo, .int .i64 x.warm.hi])⟩)]⟩⟩) (by kernel_rfl)
        refine sym_runP lay_ok [] 11 3 [] [1000] (⟨[], ⟨[(1000, .blk 91 [iv (r2.flow.lo), iv (r2.flow.hi), iv (r2.warm.lo), iv (r2.warm.hi), .gr 0])], [], [(0, ⟨25, 4, (pre ++ [(MWater.mk (MSpan.mk r2.flow.lo r2.flow.hi) (MSpan.mk r2.warm.lo r2.warm.hi))]).length, (pre ++ [(MWater.mk (MSpan.mk r2.flow.lo r2.flow.hi) (MSpan.mk r2.warm.lo r2.warm.hi))]).flatMap (fun x => [.int .i64 x.flow.lo, .int .i64 x.flow.hi, .int .i64 x.warm.lo, .int .i64 x.warm.hi])⟩)]⟩⟩) [] S (by kernel_rfl) (by kernel_rfl) trivial ?_
        clear S; intro E a w S
        refine sym_done rfl ?_
        refine out_then_normal ?_
        have S := St.pickG S [] [1000] [0] (⟨[], ⟨[(1000, .blk 91 [iv (r2.flow.lo), iv (r2.flow.hi), iv (r2.warm.lo), iv (r2.warm.hi), .gr 0])], [], [(0, ⟨25, 4, (pre ++ [(MWater.mk (MSpan.mk r2.flow.lo r2.flow.hi) (MSpan.mk r2.warm.lo r2.warm.hi))]).length, (pre ++ [(MWater.mk (MSpan.mk r2.flow.lo r2.flow.hi) (MSpan.mk r2.warm.lo r2.warm.hi))]).flatMap (fun x => [.int .i64 x.flow.lo, .int .i64 x.flow.hi, .int .i64 x.warm.lo, .int .i64 x.warm.hi])⟩)]⟩⟩) (by kernel_rfl)
        refine sym_seq lay_ok mixed [] [4] [1000] (⟨[(4, iv (0))], ⟨[(1000, .blk 91 [iv (r2.flow.lo), iv (r2.flow.hi), iv (r2.warm.lo), iv (r2.warm.hi), .gr 0])], [], [(0, ⟨25, 4, (pre ++ [(MWater.mk (MSpan.mk r2.flow.lo r2.flow.hi) (MSpan.mk r2.warm.lo r2.warm.hi))]).length, (pre ++ [(MWater.mk (MSpan.mk r2.flow.lo r2.flow.hi) (MSpan.mk r2.warm.lo r2.warm.hi))]).flatMap (fun x => [.int .i64 x.flow.lo, .int .i64 x.flow.hi, .int .i64 x.warm.lo, .int .i64 x.warm.hi])⟩)]⟩⟩) [] S (by kernel_rfl) (by kernel_rfl) (by kernel_rfl) trivial ?_
        clear S; intro E a w S
        refine wp_ret ?_
        have h := Option.some.inj h
        subst h
        exact sym_ret lay_ok [iv (0)] (by kernel_rfl) rfl S ⟨rfl, pass_end S rfl rfl rfl rfl rfl⟩
def passX (c : MWater) (pre : List MWater) (p : MPoint) : Option (MWater × List MWater × Int) :=
(pointOfX (MPoint.mk p.kind (MSpan.mk p.flow.lo p.flow.hi) (MSpan.mk p.warm.lo p.warm.hi) (MSpan.mk p.heat.lo p.heat.hi) (MSpan.mk p.share.lo p.share.hi))).bind fun (r1 : Unit) =>
some ((MWater.mk (MSpan.mk c.flow.lo c.flow.hi) (MSpan.mk c.warm.lo c.warm.hi)), pre, 1)
set_option maxRecDepth 100000 in
set_option maxHeartbeats 4000000 in
theorem passX_ok (c : MWater) (pre : List MWater) (p : MPoint) (W : World) (b : Nat) (V : Value) (hB : Blk W b 91 #[.int .i64 c.flow.lo, .int .i64 c.flow.hi, .int .i64 c.warm.lo, .int .i64 c.warm.hi, V]) (hG : GrAt W 0 (wGQ pre) V) (hV : V.ownBlock ≠ some b) (res : MWater × List MWater × Int) (h : passX c pre p = some res) :
    Calls Go.Proofs.Try.prog 54 #[.pointer (some ⟨b, 0, none⟩), .agg #[.int .i64 p.kind, .int .i64 p.flow.lo, .int .i64 p.flow.hi, .int .i64 p.warm.lo, .int .i64 p.warm.hi, .int .i64 p.heat.lo, .int .i64 p.heat.hi, .int .i64 p.share.lo, .int .i64 p.share.hi]] W fun e w' => e = .returned (.int .i64 res.2.2) ∧ Passed b V res.1 res.2.1 W w' := by
  refine sym_closure_g (f := 54) (fn := Go.Proofs.Try.f54) (c := Go.Proofs.Try.f54.body.get rfl) Go.Proofs.Try.func54 rfl [.own 1000 0, .agg [iv (p.kind), iv (p.flow.lo), iv (p.flow.hi), iv (p.warm.lo), iv (p.warm.hi), iv (p.heat.lo), iv (p.heat.hi), iv (p.share.lo), iv (p.share.hi)]] [⟨1000, b, 91, [iv (c.flow.lo), iv (c.flow.hi), iv (c.warm.lo), iv (c.warm.hi), .gr 0]⟩] [(1000, .blk 91 [iv (c.flow.lo), iv (c.flow.hi), iv (c.warm.lo), iv (c.warm.hi), .gr 0])] rfl ⟨25, 4, pre.length, pre.flatMap (fun x => [.int .i64 x.flow.lo, .int .i64 x.flow.hi, .int .i64 x.warm.lo, .int .i64 x.warm.hi])⟩ V (by kernel_rfl) ⟨hB, trivial⟩ ⟨trivial, trivial⟩ hG (fun k hk => ⟨fun (e : k = b) => hV (e ▸ hk), trivial⟩) fun E a w S => ?_
  rw [passX] at h
  refine sym_seq lay_ok mixed [(0, { g := 0 })] [0, 3] [1000, 0] (⟨[(0, .own 1000 0), (3, .own 0 0)], ⟨[(1000, .blk 91 [iv (c.flow.lo), iv (c.flow.hi), iv (c.warm.lo), iv (c.warm.hi), .gr 0]), (0, .blk 47 [iv (p.kind), iv (p.flow.lo), iv (p.flow.hi), iv (p.warm.lo), iv (p.warm.hi), iv (p.heat.lo), iv (p.heat.hi), iv (p.share.lo), iv (p.share.hi)])], [], [(0, ⟨25, 4, pre.length, pre.flatMap (fun x => [.int .i64 x.flow.lo, .int .i64 x.flow.hi, .int .i64 x.warm.lo, .int .i64 x.warm.hi])⟩)]⟩⟩) [] S (by kernel_rfl) (by kernel_rfl) (by kernel_rfl) trivial ?_
  clear S; intro E a w S
  obtain ⟨r1, e1, h⟩ := bind_some h
  refine sym_seq lay_ok mixed [(1, { res := .tup [.v (.nilIface), .v (.bool false)] })] [0, 5, 6] [1000] (⟨[(0, .own 1000 0), (5, .v (.nilIface)), (6, .v (.bool false))], ⟨[(1000, .blk 91 [iv (c.flow.lo), iv (c.flow.hi), iv (c.warm.lo), iv (c.warm.hi), .gr 0])], [], [(0, ⟨25, 4, pre.length, pre.flatMap (fun x => [.int .i64 x.flow.lo, .int .i64 x.flow.hi, .int .i64 x.warm.lo, .int .i64 x.warm.hi])⟩)]⟩⟩) [.call ⟨[], [], [(0, ⟨25, 4, pre.length, pre.flatMap (fun x => [.int .i64 x.flow.lo, .int .i64 x.flow.hi, .int .i64 x.warm.lo, .int .i64 x.warm.hi])⟩)]⟩ 65 [.agg [iv (p.kind), iv (p.flow.lo), iv (p.flow.hi), iv (p.warm.lo), iv (p.warm.hi), iv (p.heat.lo), iv (p.heat.hi), iv (p.share.lo), iv (p.share.hi)]] (.tup [.v (.nilIface), .v (.bool false)])] S (by kernel_rfl) (by kernel_rfl) (by kernel_rfl) ⟨⟨enters_65, fun _ W _ _ => pointOfX_ok (MPoint.mk p.kind (MSpan.mk p.flow.lo p.flow.hi) (MSpan.mk p.warm.lo p.warm.hi) (MSpan.mk p.heat.lo p.heat.hi) (MSpan.mk p.share.lo p.share.hi)) W r1 e1⟩, trivial⟩ ?_
  clear S; intro E a w S
  refine wp_seq ?_
  refine sym_seq lay_ok mixed [] [0, 5, 18] [1000] (⟨[(0, .own 1000 0), (5, .v (.nilIface)), (18, .v (.bool true))], ⟨[(1000, .blk 91 [iv (c.flow.lo), iv (c.flow.hi), iv (c.warm.lo), iv (c.warm.hi), .gr 0])], [], [(0, ⟨25, 4, pre.length, pre.flatMap (fun x => [.int .i64 x.flow.lo, .int .i64 x.flow.hi, .int .i64 x.warm.lo, .int .i64 x.warm.hi])⟩)]⟩⟩) [] S (by kernel_rfl) (by kernel_rfl) (by kernel_rfl) trivial ?_
  clear S; intro E a w S
  refine sym_if_last (b := true) S rfl (fun _ => ?_) (fun hb => absurd hb (by decide))
  refine sym_seq lay_ok mixed [] [4] [1000] (⟨[(4, iv (1))], ⟨[(1000, .blk 91 [iv (c.flow.lo), iv (c.flow.hi), iv (c.warm.lo), iv (c.warm.hi), .gr 0])], [], [(0, ⟨25, 4, pre.length, pre.flatMap (fun x => [.int .i64 x.flow.lo, .int .i64 x.flow.hi, .int .i64 x.warm.lo, .int .i64 x.warm.hi])⟩)]⟩⟩) [] S (by kernel_rfl) (by kernel_rfl) (by kernel_rfl) trivial ?_
  clear S; intro E a w S
  refine wp_ret ?_
  refine out_then_ret ?_
  have h := Option.some.inj h
  subst h
  exact sym_ret lay_ok [iv (1)] (by kernel_rfl) rfl S ⟨rfl, pass_end S rfl rfl rfl rfl rfl⟩
end Go.Proofs.Ytlcccomdijdkaaa
namespace Go.Proofs.Ytlcccomdijdkaaa
open Go.RowKit Go.Proofs.Try

theorem Kept.after {C C' : Nat → Prop} {a b c : World} (h : Kept C a b) (k : Kept C' b c) (hC : ∀ j, j < a.heap.size → C' j → C j) : Kept C a c :=
  ⟨k.os.trans h.os, k.tape.trans h.tape, k.output.trans h.output, Nat.le_trans h.size k.size, fun j hj hn => (k.block j (Nat.lt_of_lt_of_le hj h.size) (fun hc => hn (hC j hj hc))).trans (h.block j hj hn)⟩

/-- the results, read -/
theorem sym_results {P : Program} {X : Ctx} {st : SState} {E : Env} {a : Act} {w : World} {lay : Lay} (hl : LayOK P lay) {fn : Func} (xs : List SV) (hr : resSV lay st fn.results.toList = some xs) (S : St X st E a w) : (results fn a.tmps).run P w = .ok ((retSV xs).val E) w := by
  have h1 := res_one (P := P) hl S _ _ hr
  have h2 : (fn.results.mapM (oneRes a)).run P w = .ok (SV.vals E xs).toArray w := by
    rw [Array.mapM_eq_mapM_toList]
    show ((fn.results.toList.mapM (oneRes a)).bind fun l => Sem.pure l.toArray).run P w = _
    have := Sem.run_bind (P := P) (w := w) (fn.results.toList.mapM (oneRes a)) (fun l => (Sem.pure l.toArray : Sem (Array Value)))
    refine this.trans ?_
    rw [h1]
    rfl
  have h3 : (results fn a.tmps) = (fn.results.mapM (oneRes a) >>= fun vs => (pure (if h : vs.size = 1 then vs[0] else .tuple vs) : Sem Value)) := by
    unfold results
    congr 1
  rw [h3, Sem.run_bind, h2]
  match xs with
  | [] => simp [SV.vals, retSV, SV.val, Sem.run_pure]
  | [x] => simp [SV.vals, retSV, Sem.run_pure]
  | x :: y :: r => simp [SV.vals, retSV, SV.val, Sem.run_pure]

/-- a function that ranges over an iterator is entered -/
theorem sym_enterM {P : Program} {f : FuncId} {fn : Func} {c : Code} {W : World} {T : Ending → World → Prop} (hf : P.funcs[f]? = some fn) (hb : fn.body = some c) (svs : List SV) (hn : Nat.ble svs.length fn.ntmps = true)
    (h : ∀ a, St ⟨W, noC, fn.ntmps, [], allR, noρ, (envOf []).sl, (envOf []).x⟩ ⟨argSlots 0 svs, ⟨[], [], []⟩⟩ (envOf []) a W → c.wp P (bodyPostM (FW none) 0 P fn T) a W) : Calls P f (SV.vals (envOf []) svs).toArray W T := by
  have hn := Nat.le_of_ble_eq_true hn
  refine (callsIn_wide (n := 0)).1 (callsIn_of_wp_marks (n := 0) hf hb trivial ((wpIn_wide (n := 0)).2 (h _ ⟨fun t sv ht => ?_, by simp [vals_length]; omega, rfl, Kept.refl _ _, ⟨fun g t cs hx => by simp [look] at hx, fun s q hq => by simp [look] at hq, fun k q hq => by simp [look] at hq, envOf_one (xs := []) (sls := []) trivial⟩,
    ⟨fun g t cs hx => by simp [look] at hx, fun g g' t t' cs cs' hx => by simp [look] at hx, ⟨fun k k' x y b hx => by simp [look] at hx, fun k x b hx => by simp [look] at hx⟩, fun g k t cs y hx => by simp [look] at hx, fun s q b off hq => by simp [look] at hq, fun g Φ hx => by simp [look] at hx⟩, fun _ _ => rfl, fun _ _ => rfl, fun _ _ => rfl⟩)))
  obtain ⟨_, h2⟩ := argSlots_look svs 0 t sv ht
  rw [Nat.sub_zero] at h2
  have hlt : t < svs.length := (List.getElem?_eq_some_iff.1 h2).1
  rw [Array.getElem?_append_left (by simp [vals_length, hlt])]
  simp [vals_get, h2]

theorem blk_ne {w : World} {g g' : Nat} {t t' : TypeId} {cs cs' : Array Value} (h : Blk w g t cs) (h' : Blk w g' t' cs') (ht : t ≠ t') : g ≠ g' := fun e => by
  subst e
  have := h.symm.trans h'
  simp only [Option.some.injEq, Obj.cells.injEq] at this
  exact ht this.2.1


theorem St.put {X : Ctx} {st : SState} {E : Env} {a : Act} {w : World} (S : St X st E a w) {d : Nat} (hd : Nat.blt d X.n = true) (sv : SV) : St X ⟨(d, sv) :: st.slots, st.m⟩ E (a.put (some d) (sv.val E)) w := by
  unfold St
  simp only [look_upd]
  exact StF.put S (Nat.lt_of_succ_le (Nat.le_of_ble_eq_true hd)) sv

theorem body_normal {P : Program} {fn : Func} {R : Ending → World → Prop} {a : Act} {w : World} (h : bodyPost P fn R .ret a w) : bodyPost P fn R .normal a w := h

theorem St.seed {X : Ctx} {st : SState} {E : Env} {a : Act} {w : World} (S : St X st E a w) (hb : st.m.blks = []) (hg : st.m.grs = []) (C : Nat → Prop) : St ⟨w, C, X.n, X.D, allR, E.ρ, E.sl, E.x⟩ st E a w :=
  S.rebase C fun k hk => by
    rcases hk with ⟨g, t, cs, hx, _⟩ | ⟨j, q, hq, _⟩
    · rw [hb] at hx; simp [look] at hx
    · rw [hg] at hq; simp [look] at hq


abbrev pCells (x : MPoint) : List Value := [.int .i64 x.kind, .int .i64 x.flow.lo, .int .i64 x.flow.hi, .int .i64 x.warm.lo, .int .i64 x.warm.hi, .int .i64 x.heat.lo, .int .i64 x.heat.hi, .int .i64 x.share.lo, .int .i64 x.share.hi]
abbrev pSV (x : MPoint) : List SV := [.v (.int .i64 x.kind), .v (.int .i64 x.flow.lo), .v (.int .i64 x.flow.hi), .v (.int .i64 x.warm.lo), .v (.int .i64 x.warm.hi), .v (.int .i64 x.heat.lo), .v (.int .i64 x.heat.hi), .v (.int .i64 x.share.lo), .v (.int .i64 x.share.hi)]
abbrev encP (x : MPoint) : Array Value := #[.agg (pCells x).toArray]
abbrev wSV (x : MWater) : List SV := [.v (.int .i64 x.flow.lo), .v (.int .i64 x.flow.hi), .v (.int .i64 x.warm.lo), .v (.int .i64 x.warm.hi)]
/-- behind a point, of whatever kind -/
def passM (c : MWater) (pre : List MWater) (p : MPoint) : Option (MWater × List MWater × Int) :=
  if p.kind = 0 then pass0 c pre p else if p.kind = 1 then pass1 c pre p else if p.kind = 2 then pass2 c pre p else if p.kind = 3 then pass3 c pre p else passX c pre p
theorem passM_ok (c : MWater) (pre : List MWater) (p : MPoint) (W : World) (b : Nat) (V : Value) (hB : Blk W b 91 #[.int .i64 c.flow.lo, .int .i64 c.flow.hi, .int .i64 c.warm.lo, .int .i64 c.warm.hi, V]) (hG : GrAt W 0 (wGQ pre) V) (hV : V.ownBlock ≠ some b) (res : MWater × List MWater × Int) (h : passM c pre p = some res) :
    Calls prog 54 #[.pointer (some ⟨b, 0, none⟩), .agg (pCells p).toArray] W fun e w' => e = .returned (.int .i64 res.2.2) ∧ Passed b V res.1 res.2.1 W w' := by
  unfold passM at h
  by_cases h0 : p.kind = 0
  · rw [if_pos h0] at h
    have := pass0_ok c pre p W b V hB hG hV res h
    rwa [← h0] at this
  rw [if_neg h0] at h
  by_cases h1 : p.kind = 1
  · rw [if_pos h1] at h
    have := pass1_ok c pre p W b V hB hG hV res h
    rwa [← h1] at this
  rw [if_neg h1] at h
  by_cases h2 : p.kind = 2
  · rw [if_pos h2] at h
    have := pass2_ok c pre p W b V hB hG hV res h
    rwa [← h2] at this
  rw [if_neg h2] at h
  by_cases h3 : p.kind = 3
  · rw [if_pos h3] at h
    have := pass3_ok c pre p W b V hB hG hV res h
    rwa [← h3] at this
  rw [if_neg h3] at h
  exact passX_ok c pre p W b V hB hG hV res h
/-- point after point -/
def followM : MWater → List MWater → List MPoint → Option (List MWater × Int)
  | _, pre, [] => some (pre, 0)
  | c, pre, p :: r => (passM c pre p).bind fun z => if z.2.2 = 0 then followM z.1 z.2.1 r else some (z.2.1, z.2.2)

/-- what the function has of its own while it goes on -/
def FI (b0 b1 b2 : Nat) (W0 : World) (xs : List MPoint) (res : List MWater × Int) (pre : List MPoint) (S : Nat → Prop) (W : World) : Prop :=
  ∃ c ws rest V, xs = pre ++ rest ∧ followM c ws rest = some res ∧ Blk W b0 29 #[.slice none 0 0] ∧ Blk W b1 30 #[.int .i64 0] ∧ Blk W b2 91 #[.int .i64 c.flow.lo, .int .i64 c.flow.hi, .int .i64 c.warm.lo, .int .i64 c.warm.hi, V] ∧ GrAt W 0 (wGQ ws) V ∧ V.ownBlock ≠ some b2 ∧
    (∀ k, V.ownBlock = some k → W0.heap.size ≤ k) ∧ (∀ k, S k ↔ (k = b0 ∨ k = b1 ∨ k = b2 ∨ V.ownBlock = some k)) ∧ Below W0.heap.size W0 W
/-- and where it has ended -/
def FX (b0 b1 : Nat) (W0 : World) (res : List MWater × Int) (S : Nat → Prop) (W : World) : Prop :=
  ∃ V, Blk W b0 29 #[V] ∧ Blk W b1 30 #[.int .i64 res.2] ∧ GrAt W 0 (wGQ res.1) V ∧ (∀ k, V.ownBlock = some k → W0.heap.size ≤ k) ∧ (∀ k, (k = b0 ∨ k = b1 ∨ V.ownBlock = some k) → S k) ∧ (∀ k, S k → k < W.heap.size) ∧ Below W0.heap.size W0 W
theorem below_on {W0 a b : World} {C : Nat → Prop} (h : Below W0.heap.size W0 a) (hk : Kept C a b) (hC : ∀ k, C k → W0.heap.size ≤ k) : Below W0.heap.size W0 b :=
  ⟨hk.os.trans h.os, hk.tape.trans h.tape, hk.output.trans h.output, Nat.le_trans h.size hk.size, fun k hlt => (hk.block k (Nat.lt_of_lt_of_le hlt h.size) (fun hc => by have := hC k hc; omega)).trans (h.block k hlt)⟩
theorem FI.rest (b0 b1 b2 : Nat) (W0 : World) (xs : List MPoint) (res : List MWater × Int) (B : Nat) (hB : W0.heap.size ≤ B) : RestM (fun _ => False) B (FI b0 b1 b2 W0 xs res) := by
  refine ⟨fun s S a b hJ hk => ?_, fun s S a hJ k hk => ?_⟩
  · obtain ⟨c, ws, rest, V, hx, hf, c0, c1, c2, hG, hV, hVB, hS, hbl⟩ := hJ
    have same : ∀ k, S k → k < a.heap.size → b.heap[k]? = a.heap[k]? := fun k hs hlt => hk.block k hlt (fun h => h.1 hs)
    exact ⟨c, ws, rest, V, hx, hf, (same b0 ((hS b0).2 (.inl rfl)) c0.lt).trans c0, (same b1 ((hS b1).2 (.inr (.inl rfl))) c1.lt).trans c1, (same b2 ((hS b2).2 (.inr (.inr (.inl rfl)))) c2.lt).trans c2, hG.move fun k hb => same k ((hS k).2 (.inr (.inr (.inr hb)))) (World.ownsRow.lt hG k hb).2, hV, hVB, hS,
      below_on hbl hk fun k h => by rcases h.2 with h | h; (omega); exact h.elim⟩
  · obtain ⟨c, ws, rest, V, hx, hf, c0, c1, c2, hG, hV, hVB, hS, hbl⟩ := hJ
    rcases (hS k).1 hk with rfl | rfl | rfl | hb
    · exact c0.lt
    · exact c1.lt
    · exact c2.lt
    · exact (World.ownsRow.lt hG k hb).2
theorem FX.rest {α : Type} (b0 b1 : Nat) (W0 : World) (res : List MWater × Int) (B : Nat) (hB : W0.heap.size ≤ B) (p : Prop) : RestM (fun _ => False) B (fun (_ : List α) S W => p ∧ FX b0 b1 W0 res S W) := by
  refine ⟨fun s S a b hJ hk => ?_, fun s S a hJ k hk => ?_⟩
  · obtain ⟨hp, V, c0, c1, hG, hVB, hS, hlt, hbl⟩ := hJ
    have same : ∀ k, S k → k < a.heap.size → b.heap[k]? = a.heap[k]? := fun k hs hlt => hk.block k hlt (fun h => h.1 hs)
    exact ⟨hp, V, (same b0 (hS b0 (.inl rfl)) c0.lt).trans c0, (same b1 (hS b1 (.inr (.inl rfl))) c1.lt).trans c1, hG.move fun k hb => same k (hS k (.inr (.inr hb))) (World.ownsRow.lt hG k hb).2, hVB, hS, fun k hs => Nat.lt_of_lt_of_le (hlt k hs) hk.size,
      below_on hbl hk fun k h => by rcases h.2 with h | h; (omega); exact h.elim⟩
  · obtain ⟨hp, V, c0, c1, hG, hVB, hS, hlt, hbl⟩ := hJ
    exact hlt k hk
/-- what a call of it returns -/
abbrev FolPost (W0 : World) (res : List MWater × Int) : Ending → World → Prop := fun e w' => ∃ v : Nat → Value, e = .returned (.tuple #[v 0, .int .i64 res.2]) ∧ Below W0.heap.size W0 w' ∧ (∀ i, (v i).oneCell' = true) ∧ HeldIn (fun k => W0.heap.size ≤ k) w' (SlicesAre 0 [⟨res.1.length, 4, fun i => wCells (res.1.getD i default)⟩] v)
set_option maxRecDepth 100000 in
theorem fol_leave {W0 W5 : World} {a : Act} {b0 b1 D : Nat} {V : Value} {res : List MWater × Int} {ds : List Deferred} (hz : a.tmps.size = f35.ntmps) (t4 : a.tmps[4]? = some (.pointer (some ⟨b0, 0, none⟩))) (t5 : a.tmps[5]? = some (.pointer (some ⟨b1, 0, none⟩))) (k0 : Blk W5 b0 29 #[V]) (k1 : Blk W5 b1 30 #[.int .i64 res.2]) (hG : GrAt W5 0 (wGQ res.1) V)
    (hVB : ∀ k, V.ownBlock = some k → W0.heap.size ≤ k) (hbl : Below W0.heap.size W0 W5) (hDd : W5.heap[D]? = some (.deferred (some []))) (hDN : W0.heap.size ≤ D) (hD : D ≠ b0 ∧ D ≠ b1 ∧ V.ownBlock ≠ some D) (hds : ds = [{ target := .collected D, args := #[] }]) :
    LeavesInM (FW none) 0 prog f35 a.tmps (FolPost W0 res) ds .returning W5 := by
  subst hds
  refine ⟨by simp, .inl ⟨D, _, rfl, run_takeDeferred hDd, ?_⟩⟩
  have hkD : Kept (fun k => k = D) W5 (W5.putObj D (.deferred none)) := (Kept.refl (fun k => k = D) W5).putObj (r := D) rfl _
  have g0 : Blk (W5.putObj D (.deferred none)) b0 29 _ := (hkD.block b0 k0.lt (fun e => hD.1 e.symm)).trans k0
  have g1 : Blk (W5.putObj D (.deferred none)) b1 30 _ := (hkD.block b1 k1.lt (fun e => hD.2.1 e.symm)).trans k1
  have hG' : GrAt (W5.putObj D (.deferred none)) 0 (wGQ res.1) V := hG.move fun k hk => hkD.block k (World.ownsRow.lt hG k hk).2 (fun e => hD.2.2 (e ▸ hk))
  obtain ⟨A, c, rfl⟩ := gr_slice hG
  have SF := St.make [⟨1000, b0, 29, [.v (.slice A res.1.length c)]⟩, ⟨1001, b1, 30, [.v (.int .i64 res.2)]⟩] (slots := [(4, .own 1000 0), (5, .own 1001 0)]) (a := ⟨a.tmps, []⟩) (w := W5.putObj D (.deferred none)) (n := f35.ntmps) ⟨t4, t5, trivial⟩ hz rfl ⟨g0, g1, trivial⟩ ⟨⟨blk_ne g0 g1 (by decide), trivial⟩, trivial, trivial⟩
  have hr := sym_results (fn := f35) lay_ok [.v (.slice A res.1.length c), .v (.int .i64 res.2)] (by kernel_rfl) SF
  refine ⟨_, hr, fun _ => .slice A res.1.length c, rfl, below_on hbl hkD (fun k h => by omega), fun _ => rfl, ?_⟩
  exact (GrAt.slice hG' hVB 0 (fun _ => .slice A res.1.length c) rfl _ (flat_get wCells 4 (fun _ => rfl) res.1)).and (.true fun _ => trivial)

set_option maxRecDepth 100000 in
set_option maxHeartbeats 4000000 in
theorem follow_ok (c0 : MWater) (xs : List MPoint) (gf : Nat) (lb : Array Value) (DD : Nat → Prop) (W : World) (res : List MWater × Int) (h : followM c0 [] xs = some res) (eg : EntersOK prog gf)
    (hseq : SeqT (FW none) prog gf lb encP xs none (fun _ => False) DD (fun _ => True) W) (hDD : ∀ k, DD k → k < W.heap.size) :
    Calls prog 35 #[.agg (wCells c0).toArray, .func (.func gf) #[] lb] W (FolPost W res) := by
  refine sym_enterM (f := 35) (fn := f35) (c := f35.body.get rfl) func35 rfl [.agg (wSV c0), .v (.func (.func gf) #[] lb)] (by kernel_rfl) fun a0 S => ?_
  refine sym_seq lay_ok mixed [(0, { g := 0 }), (1, { g := 1 }), (2, { g := 2 })] [1, 2, 4, 5] [0, 1, 2] (⟨[(1, .v (.func (.func gf) #[] lb)), (2, .own 0 0), (4, .own 1 0), (5, .own 2 0)], ⟨[(0, .blk 25 (wSV c0)), (1, .blk 29 [.v (.slice none 0 0)]), (2, .blk 30 [.v (.int .i64 0)])], [], []⟩⟩) [] S (by kernel_rfl) (by kernel_rfl) (by kernel_rfl) trivial fun E a1 w1 S1 => ?_
  refine sym_seq lay_ok mixed [(2, { g := 3 })] [1, 4, 5, 6] [1, 2, 3] (⟨[(1, .v (.func (.func gf) #[] lb)), (4, .own 1 0), (5, .own 2 0), (6, .own 3 0)], ⟨[(1, .blk 29 [.v (.slice none 0 0)]), (2, .blk 30 [.v (.int .i64 0)]), (3, .blk 91 (wSV c0 ++ [.v (.slice none 0 0)]))], [], []⟩⟩) [] S1 (by kernel_rfl) (by kernel_rfl) (by kernel_rfl) trivial fun E a1 w1 S1 => ?_
  refine wp_seq ?_
  refine sym_seq lay_ok mixed [] [4, 5, 6, 11] [1, 2, 3] (⟨[(4, .own 1 0), (5, .own 2 0), (6, .own 3 0), (11, .v (.func (.func gf) #[] lb))], ⟨[(1, .blk 29 [.v (.slice none 0 0)]), (2, .blk 30 [.v (.int .i64 0)]), (3, .blk 91 (wSV c0 ++ [.v (.slice none 0 0)]))], [], []⟩⟩) [] S1 (by kernel_rfl) (by kernel_rfl) (by kernel_rfl) trivial fun E a2 w2 S2 => ?_
  have c0' : Blk w2 (E.ρ 1) 29 #[.slice none 0 0] := S2.mem.blk 1 _ _ rfl
  have c1' : Blk w2 (E.ρ 2) 30 #[.int .i64 0] := S2.mem.blk 2 _ _ rfl
  have c2' : Blk w2 (E.ρ 3) 91 #[.int .i64 c0.flow.lo, .int .i64 c0.flow.hi, .int .i64 c0.warm.lo, .int .i64 c0.warm.hi, .slice none 0 0] := S2.mem.blk 3 _ _ rfl
  have n0 : W.heap.size ≤ E.ρ 1 := (S2.sep.base 1 _ _ rfl).resolve_right (fun h => h)
  have n1 : W.heap.size ≤ E.ρ 2 := (S2.sep.base 2 _ _ rfl).resolve_right (fun h => h)
  have n2 : W.heap.size ≤ E.ρ 3 := (S2.sep.base 3 _ _ rfl).resolve_right (fun h => h)
  have t4 := S2.slot 4 _ rfl
  have t5 := S2.slot 5 _ rfl
  have t6 := S2.slot 6 _ rfl
  have t11 := S2.slot 11 _ rfl
  have hz2 : a2.tmps.size = f35.ntmps := S2.size
  have hd2 : a2.defers = [] := S2.defers
  have hb2 : Below W.heap.size W w2 := S2.kept.below (Nat.le_refl _) (fun k _ h => h)
  clear S S1 S2
  simp only [SV.val] at t4 t5 t6 t11
  generalize E.ρ 1 = b0 at *
  generalize E.ρ 2 = b1 at *
  generalize E.ρ 3 = b2 at *
  clear E
  refine wp_block ?_
  refine (wpIn_wide (n := 0)).1 (rangeT_outer (F := FW none) rfl rfl (gf := gf) (by simp [Act.eval, t11]) trivial eg hseq hb2 (fun _ => rfl) (fun k => k = b0 ∨ k = b1 ∨ k = b2) ?_ (fun k h => Nat.lt_of_lt_of_le (hDD k h) hb2.size) (fun k h => h.elim) (fun _ _ _ _ => trivial) (FI b0 b1 b2 W xs res) (fun cd _ S W' => cd = .ret ∧ FX b0 b1 W res S W') (FI.rest _ _ _ _ _ _ _ hb2.size) (fun cd => FX.rest _ _ _ _ _ hb2.size _) ?_ ?_ ?_ ?_ (fun _ _ _ _ h => by cases h))
  · intro k hk
    rcases hk with rfl | rfl | rfl
    · exact ⟨c0'.lt, fun h2 => by have := hDD _ h2; omega, fun h => h⟩
    · exact ⟨c1'.lt, fun h2 => by have := hDD _ h2; omega, fun h => h⟩
    · exact ⟨c2'.lt, fun h2 => by have := hDD _ h2; omega, fun h => h⟩
  · exact ⟨c0, [], xs, .slice none 0 0, rfl, h, c0', c1', c2', World.ownsRow_nil _ _ _ _, by simp [Value.ownBlock], fun k h => by simp [Value.ownBlock] at h, fun k => by simp [Value.ownBlock], hb2⟩
  · -- a round
    intro m ln pre x rest W2 S K hl hlt hSl hxs hI hg hK
    have SR : St ⟨W2, inCB [], f35.ntmps, [], allR, rhoOf [], (envOf []).sl, (envOf []).x⟩ ⟨[(4, .v (.pointer (some ⟨b0, 0, none⟩))), (5, .v (.pointer (some ⟨b1, 0, none⟩))), (6, .v (.pointer (some ⟨b2, 0, none⟩))), (12, .agg (pSV x))], ⟨[], [], []⟩⟩ (envC [] [] []) { tmps := (#[12].zip (encP x)).foldl (fun t (p, v) => t.setIfInBounds p v) a2.tmps, defers := [] } W2 :=
      St.make [] ⟨by simp [t4, SV.val], by simp [t5, SV.val], by simp [t6, SV.val], by simp [SV.val, SV.vals, hz2, show f35.ntmps = 22 from rfl], trivial⟩ (by simp [hz2]) rfl trivial trivial
    refine sym_openI (ro := some ln) ?_
    refine sym_runIP lay_ok [(0, { g := 0 })] 0 2 [4, 5, 6, 7] [0] (⟨[(4, .v (.pointer (some ⟨b0, 0, none⟩))), (5, .v (.pointer (some ⟨b1, 0, none⟩))), (6, .v (.pointer (some ⟨b2, 0, none⟩))), (7, .own 0 0)], ⟨[(0, .blk 47 (pSV x))], [], []⟩⟩) [] SR (by kernel_rfl) (by kernel_rfl) (by kernel_rfl) trivial fun E1 a3 W3 S1 => ?_
    refine sym_doneI rfl ?_
    refine out_then_normal ?_
    have hb3 : Below W2.heap.size W2 W3 := S1.kept.below (Nat.le_refl _) (fun k _ h => by obtain ⟨x, hx, _⟩ := h; cases hx)
    have u4 := S1.slot 4 _ rfl
    have u5 := S1.slot 5 _ rfl
    have u6 := S1.slot 6 _ rfl
    have u7 := S1.slot 7 _ rfl
    have kx : Blk W3 (E1.ρ 0) 47 (pCells x).toArray := S1.mem.blk 0 _ _ rfl
    have hge : W2.heap.size ≤ E1.ρ 0 := by
      rcases S1.sep.base 0 _ _ rfl with h | ⟨x, hx, _⟩
      · exact h
      · cases hx
    have hz3 : a3.tmps.size = f35.ntmps := S1.size
    have hd3 : a3.defers = [] := S1.defers
    simp only [SV.val] at u4 u5 u6 u7
    generalize E1.ρ 0 = bz at *
    clear S1 SR E1
    have hSlt : ∀ k, S k → k < W2.heap.size := (FI.rest b0 b1 b2 W xs res W2.heap.size (Nat.le_trans hb2.size (by omega))).2 _ _ _ hI
    clear hI
    refine hK a3 W3 hb3 fun W4 hz4 hk4 _ hI4 => ?_
    obtain ⟨c, ws, rest', V, hx', hf, e0, e1, e2, hG, hVne, hVB, hS, hbl⟩ := hI4
    have hrest : rest' = x :: rest := by
      have := hx'.symm.trans hxs
      exact List.append_cancel_left this
    subst hrest
    have kx4 : Blk W4 bz 47 (pCells x).toArray := (hk4.block bz kx.lt (fun e => by have := kx.lt; omega)).trans kx
    simp only [followM] at hf
    obtain ⟨z, hz, hf⟩ := bind_some hf
    have S4 := St.make [⟨1001, bz, 47, pSV x⟩] (slots := [(4, .v (.pointer (some ⟨b0, 0, none⟩))), (5, .v (.pointer (some ⟨b1, 0, none⟩))), (6, .v (.pointer (some ⟨b2, 0, none⟩))), (7, .own 1001 0)]) (a := a3) (w := W4) (n := f35.ntmps) ⟨u4, u5, u6, u7, trivial⟩ hz3 hd3 ⟨kx4, trivial⟩ ⟨trivial, trivial⟩
    refine wpIn_block ?_
    refine wpIn_seq ?_
    refine sym_openI (ro := some ln) ?_
    refine sym_runIP lay_ok [] 0 1 [4, 5, 6, 13] [1001] (⟨[(4, .v (.pointer (some ⟨b0, 0, none⟩))), (5, .v (.pointer (some ⟨b1, 0, none⟩))), (6, .v (.pointer (some ⟨b2, 0, none⟩))), (13, .agg (pSV x))], ⟨[(1001, .blk 47 (pSV x))], [], []⟩⟩) [] S4 (by kernel_rfl) (by kernel_rfl) (by kernel_rfl) trivial fun E5 a5 W5 S5 => ?_
    have hbz : ∀ k, S k → k ≠ bz := fun k hk e => by have := hSlt k hk; omega
    have hkz : Kept (fun k => k = bz) W4 W5 := S5.kept.mono fun k _ h => by
      obtain ⟨y, hy, rfl⟩ := h
      rw [List.mem_singleton.1 hy]
    have kx5 : Blk W5 bz 47 (pCells x).toArray := by
      have := S5.mem.blk 1001 _ _ rfl
      rwa [show E5.ρ 1001 = bz from S5.pin.1 1001 (by decide)] at this
    have s0 := (hS b0).2 (.inl rfl)
    have s1 := (hS b1).2 (.inr (.inl rfl))
    have s2 := (hS b2).2 (.inr (.inr (.inl rfl)))
    have e0' : Blk W5 b0 29 _ := (hkz.block b0 e0.lt (hbz b0 s0)).trans e0
    have e1' : Blk W5 b1 30 _ := (hkz.block b1 e1.lt (hbz b1 s1)).trans e1
    have e2' : Blk W5 b2 91 _ := (hkz.block b2 e2.lt (hbz b2 s2)).trans e2
    have hG5 : GrAt W5 0 (wGQ ws) V := hG.move fun k hk => hkz.block k (World.ownsRow.lt hG k hk).2 (hbz k ((hS k).2 (.inr (.inr (.inr hk)))))
    have v4 := S5.slot 4 _ rfl
    have v5 := S5.slot 5 _ rfl
    have v6 := S5.slot 6 _ rfl
    have v13 := S5.slot 13 _ rfl
    have hz5 : a5.tmps.size = f35.ntmps := S5.size
    have hd5 : a5.defers = [] := S5.defers
    simp only [SV.val, SV.vals] at v4 v5 v6 v13
    clear S4 S5
    refine sym_callI (f := 54) (vs := #[.pointer (some ⟨b2, 0, none⟩), .agg (pCells x).toArray]) rfl rfl rfl (by simp [Act.eval, v6, v13]) enters_54 (passM_ok c ws x W5 b2 V e2' hG5 hVne z hz) ?_
    rintro e W6 ⟨rfl, V', d2, hG6, hV'ne, hV'B, hk6⟩
    refine .inl ⟨_, rfl, ?_⟩
    have row25 : ∀ k, V.ownBlock = some k → ∃ cur, Blk W5 k 25 cur := fun k hk => by
      rcases hG5.2 with ⟨h1, _⟩ | ⟨g, cp, cur, h1, _, hg, _⟩
      · rw [h1] at hk; simp [Value.ownBlock] at hk
      · rw [h1] at hk
        simp only [Value.ownBlock, Option.some.injEq] at hk
        subst hk
        exact ⟨cur, hg⟩
    have nV : ∀ {g t cs}, Blk W5 g t cs → t ≠ 25 → V.ownBlock ≠ some g := fun hb ht hv => by
      obtain ⟨cur, hc⟩ := row25 _ hv
      exact blk_ne hb hc ht rfl
    have d0 : Blk W6 b0 29 _ := (hk6.block b0 e0'.lt (fun h => h.elim (blk_ne e0' e2' (by decide)) (nV e0' (by decide)))).trans e0'
    have d1 : Blk W6 b1 30 _ := (hk6.block b1 e1'.lt (fun h => h.elim (blk_ne e1' e2' (by decide)) (nV e1' (by decide)))).trans e1'
    have dz : Blk W6 bz 47 _ := (hk6.block bz kx5.lt (fun h => h.elim (blk_ne kx5 e2' (by decide)) (nV kx5 (by decide)))).trans kx5
    have hVs' : ∀ k, V'.ownBlock = some k → V.ownBlock = some k ∨ W4.heap.size ≤ k := fun k hk => (hV'B k hk).imp id (fun h => Nat.le_trans hkz.size h)
    have hVB' : ∀ k, V'.ownBlock = some k → W.heap.size ≤ k := fun k hk => (hVs' k hk).elim (hVB k) (fun h => Nat.le_trans hbl.size h)
    have hkS6 : Kept S W4 W6 := ⟨hk6.os.trans hkz.os, hk6.tape.trans hkz.tape, hk6.output.trans hkz.output, Nat.le_trans hkz.size hk6.size, fun k hlt hn => by
      by_cases ez : k = bz
      · subst ez; exact dz.trans kx4.symm
      · exact (hk6.block k (Nat.lt_of_lt_of_le hlt hkz.size) (fun h => by
          rcases h with rfl | h
          · exact hn s2
          · exact hn ((hS k).2 (.inr (.inr (.inr h)))))).trans (hkz.block k hlt ez)⟩
    have hbl6 : Below W.heap.size W W6 := below_on hbl hkS6 fun k hk => by
      rcases (hS k).1 hk with rfl | rfl | rfl | h
      · exact n0
      · exact n1
      · exact n2
      · exact hVB k h
    have S6 := (St.make [] (slots := [(4, .v (.pointer (some ⟨b0, 0, none⟩))), (5, .v (.pointer (some ⟨b1, 0, none⟩))), (6, .v (.pointer (some ⟨b2, 0, none⟩)))]) (a := a5) (w := W6) (n := f35.ntmps) ⟨v4, v5, v6, trivial⟩ hz5 hd5 trivial trivial).put (d := 14) (by kernel_rfl) (.v (.int .i64 z.2.2))
    have hd6 : (a5.put (some 14) (.int .i64 z.2.2)).defers = [] := hd5
    simp only [SV.val] at S6
    generalize a5.put (some 14) (.int .i64 z.2.2) = a6 at S6 hd6 ⊢
    refine sym_runIP lay_ok [] 2 1 [4, 5, 6, 8] [] (⟨[(4, .v (.pointer (some ⟨b0, 0, none⟩))), (5, .v (.pointer (some ⟨b1, 0, none⟩))), (6, .v (.pointer (some ⟨b2, 0, none⟩))), (8, .v (.int .i64 z.2.2))], ⟨[], [], []⟩⟩) [] S6 (by kernel_rfl) (by kernel_rfl) (by kernel_rfl) trivial fun E7 a7 W7 S7 => ?_
    refine sym_doneI rfl ?_
    refine out_then_normal ?_
    refine wpIn_seq ?_
    refine sym_openI (ro := some ln) ?_
    refine sym_runIP lay_ok [] 0 2 [4, 5, 6, 8, 16] [] (⟨[(4, .v (.pointer (some ⟨b0, 0, none⟩))), (5, .v (.pointer (some ⟨b1, 0, none⟩))), (6, .v (.pointer (some ⟨b2, 0, none⟩))), (8, .v (.int .i64 z.2.2)), (16, .v (.bool (z.2.2 != 0)))], ⟨[], [], []⟩⟩) [] S7 (by kernel_rfl) (by kernel_rfl) (by kernel_rfl) trivial fun E8 a8 W8 S8 => ?_
    refine sym_doneI rfl ?_
    refine out_then_normal ?_
    have hk8 : Below W6.heap.size W6 W8 := S8.kept.below (Nat.le_refl _) (fun k _ h => by obtain ⟨x, hx, _⟩ := h; cases hx)
    have x4 := S8.slot 4 _ rfl
    have x5 := S8.slot 5 _ rfl
    have x6 := S8.slot 6 _ rfl
    have x8 := S8.slot 8 _ rfl
    have x16 := S8.slot 16 _ rfl
    have hz8 : a8.tmps.size = f35.ntmps := S8.size
    simp only [SV.val] at x4 x5 x6 x8 x16
    clear S6 S7 S8
    have hkS8 : Kept S W4 W8 := ⟨hk8.os.trans hkS6.os, hk8.tape.trans hkS6.tape, hk8.output.trans hkS6.output, Nat.le_trans hkS6.size hk8.size, fun k hlt hn => (hk8.block k (Nat.lt_of_lt_of_le hlt hkS6.size)).trans (hkS6.block k hlt hn)⟩
    have hbl8 : Below W.heap.size W W8 := hbl6.trans (hk8.mono hbl6.size)
    have d0 : Blk W8 b0 29 _ := (hk8.block _ d0.lt).trans d0
    have d1 : Blk W8 b1 30 _ := (hk8.block _ d1.lt).trans d1
    have d2 : Blk W8 b2 91 _ := (hk8.block _ d2.lt).trans d2
    have hG8 : GrAt W8 0 (wGQ z.2.1) V' := hG6.move fun k hk => hk8.block k (World.ownsRow.lt hG6 k hk).2
    refine wpIn_cond_split (t := z.2.2 != 0) (by simp [Act.eval, x16]) (fun hb => ?_) (fun hb => ?_)
    · -- it ends here
      have hne : z.2.2 ≠ 0 := by simpa using hb
      rw [if_neg hne] at hf
      have hres := Option.some.inj hf
      have row25' : ∀ k, V'.ownBlock = some k → ∃ cur, Blk W8 k 25 cur := fun k hk => by
        rcases hG8.2 with ⟨h1, _⟩ | ⟨g, cp, cur, h1, _, hg, _⟩
        · rw [h1] at hk; simp [Value.ownBlock] at hk
        · rw [h1] at hk
          simp only [Value.ownBlock, Option.some.injEq] at hk
          subst hk
          exact ⟨cur, hg⟩
      have nV' : ∀ {g t cs}, Blk W8 g t cs → t ≠ 25 → ∀ k, V'.ownBlock = some k → k ≠ g := fun hb ht k hv e => by
        obtain ⟨cur, hc⟩ := row25' _ hv
        exact blk_ne hc hb (fun h => ht h.symm) e
      refine wpIn_seq ?_
      have SX := St.make2 [⟨1000, b0, 29, [.v (.slice none 0 0)]⟩, ⟨1001, b1, 30, [.v (.int .i64 0)]⟩, ⟨1002, b2, 91, wSV z.1 ++ [SV.gr 0]⟩] 0 (wGQ z.2.1) V' (slots := [(4, .own 1000 0), (5, .own 1001 0), (6, .own 1002 0), (8, .v (.int .i64 z.2.2))]) (a := a8) (w := W8) (n := f35.ntmps) ⟨x4, x5, x6, x8, trivial⟩ hz8 ⟨d0, d1, d2, trivial⟩ ⟨⟨blk_ne d0 d1 (by decide), blk_ne d0 d2 (by decide), trivial⟩, ⟨blk_ne d1 d2 (by decide), trivial⟩, trivial, trivial⟩ hG8 (fun k hk => ⟨nV' d0 (by decide) k hk, nV' d1 (by decide) k hk, fun (e : k = b2) => hV'ne (e ▸ hk), trivial⟩)
      refine sym_openI (ro := some ln) ?_
      refine sym_runIP lay_ok [] 0 5 [] [1000, 1001] (⟨[], ⟨[(1000, .blk 29 [.gr 0]), (1001, .blk 30 [.v (.int .i64 z.2.2)])], [], [(0, wGQ z.2.1)]⟩⟩) [] SX (by kernel_rfl) (by kernel_rfl) (by kernel_rfl) trivial fun E9 a9 W9 S9 => ?_
      refine sym_doneI rfl ?_
      refine out_then_normal ?_
      refine wpIn_ret ?_
      have g0 := S9.mem.blk 1000 _ _ rfl
      have g1 := S9.mem.blk 1001 _ _ rfl
      have hG9 := S9.mem.gr 0 _ rfl
      have p0 : E9.ρ 1000 = b0 := S9.pin.1 1000 (by decide)
      have p1 : E9.ρ 1001 = b1 := S9.pin.1 1001 (by decide)
      have m0 := S9.sep.mix 1000 0 _ _ _ rfl rfl
      have gb := S9.sep.ginj.2 0 (wGQ z.2.1)
      have hk9 := S9.kept
      rw [p0] at g0 m0
      rw [p1] at g1
      simp only [SV.vals, SV.val] at g0 g1
      generalize E9.gr 0 = V9 at *
      have hC : ∀ k, (inCB [⟨1000, b0, 29, [.v (.slice none 0 0)]⟩, ⟨1001, b1, 30, [.v (.int .i64 0)]⟩, ⟨1002, b2, 91, wSV z.1 ++ [SV.gr 0]⟩] k ∨ V'.ownBlock = some k) → k = b0 ∨ k = b1 ∨ k = b2 ∨ V'.ownBlock = some k := fun k h => by
        rcases h with ⟨y, hy, rfl⟩ | h
        · simp only [List.mem_cons, List.not_mem_nil, or_false] at hy
          rcases hy with rfl | rfl | rfl
          · exact .inl rfl
          · exact .inr (.inl rfl)
          · exact .inr (.inr (.inl rfl))
        · exact .inr (.inr (.inr h))
      have hCW : ∀ k, (k = b0 ∨ k = b1 ∨ k = b2 ∨ V'.ownBlock = some k) → W.heap.size ≤ k := fun k h => by
        rcases h with rfl | rfl | rfl | h
        · exact n0
        · exact n1
        · exact n2
        · exact hVB' k h
      have hV9 : ∀ k, V9.ownBlock = some k → W.heap.size ≤ k := fun k hk => by
        rcases gb k rfl hk with h | h
        · exact Nat.le_trans hbl8.size h
        · exact hCW k (hC k h)
      have hkS9 : Kept S W4 W9 := ⟨hk9.os.trans hkS8.os, hk9.tape.trans hkS8.tape, hk9.output.trans hkS8.output, Nat.le_trans hkS8.size hk9.size, fun k hlt hn => (hk9.block k (Nat.lt_of_lt_of_le hlt hkS8.size) (fun h => by
        rcases hC k h with rfl | rfl | rfl | h
        · exact hn s0
        · exact hn s1
        · exact hn s2
        · rcases hVs' k h with h2 | h2
          · exact hn ((hS k).2 (.inr (.inr (.inr h2))))
          · omega)).trans (hkS8.block k hlt hn)⟩
      have hV9S : ∀ k, V9.ownBlock = some k → S k ∨ W4.heap.size ≤ k := fun k hk => by
        rcases gb k rfl hk with h | h
        · exact .inr (Nat.le_trans hkS8.size h)
        · rcases hC k h with rfl | rfl | rfl | h
          · exact .inl s0
          · exact .inl s1
          · exact .inl s2
          · rcases hVs' k h with h2 | h2
            · exact .inl ((hS k).2 (.inr (.inr (.inr h2))))
            · exact .inr h2
      refine out_block_ret ?_
      refine ⟨fun k => S k ∨ V9.ownBlock = some k, fun k hk => ?_, hkS9, rfl, V9, g0, by rw [← hres]; exact g1, by rw [← hres]; exact hG9, hV9, fun k hk => ?_, fun k hk => ?_, below_on hbl8 hk9 fun k h => hCW k (hC k h)⟩
      · rcases hk with h | h
        · exact .inl h
        · exact hV9S k h
      · rcases hk with rfl | rfl | h
        · exact .inl s0
        · exact .inl s1
        · exact .inr h
      · rcases hk with h | h
        · have := hSlt k h
          have := hb3.size
          have := hkS9.size
          omega
        · exact (World.ownsRow.lt hG9 k h).2
    · -- it goes on
      have hze : z.2.2 = 0 := by simpa using hb
      rw [if_pos hze] at hf
      refine wpIn_skip ?_
      refine out_block_normal ?_
      refine ⟨fun k => k = b0 ∨ k = b1 ∨ k = b2 ∨ V'.ownBlock = some k, fun k hk => ?_, hkS8, z.1, z.2.1, rest, V', by rw [hxs]; simp, hf, d0, d1, d2, hG8, hV'ne, hVB', fun k => Iff.rfl, hbl8⟩
      rcases hk with rfl | rfl | rfl | h
      · exact .inl s0
      · exact .inl s1
      · exact .inl s2
      · rcases hVs' k h with h | h
        · exact .inl ((hS k).2 (.inr (.inr (.inr h))))
        · exact .inr h
  · -- all points are passed
    intro D S W5 hD hDl hSD hI hg _ _ hDd
    obtain ⟨c, ws, rest, V, hx, hf, k0, k1, k2, hG, hVne, hVB, hS, hbl⟩ := hI
    have hr : rest = [] := by
      have := congrArg List.length hx
      simp at this
      exact this
    subst hr
    simp only [followM, Option.some.injEq] at hf
    refine out_block_normal ?_
    refine out_then_normal ?_
    have hDn : D ≠ b0 ∧ D ≠ b1 ∧ D ≠ b2 ∧ V.ownBlock ≠ some D := ⟨fun e => hSD ((hS D).2 (.inl e)), fun e => hSD ((hS D).2 (.inr (.inl e))), fun e => hSD ((hS D).2 (.inr (.inr (.inl e)))), fun e => hSD ((hS D).2 (.inr (.inr (.inr e))))⟩
    have row25 : ∀ k, V.ownBlock = some k → ∃ cur, Blk W5 k 25 cur := fun k hk => by
      rcases hG.2 with ⟨h1, _⟩ | ⟨g, cp, cur, h1, _, hg, _⟩
      · rw [h1] at hk; simp [Value.ownBlock] at hk
      · rw [h1] at hk
        simp only [Value.ownBlock, Option.some.injEq] at hk
        subst hk
        exact ⟨cur, hg⟩
    have nV : ∀ {g t cs}, Blk W5 g t cs → t ≠ 25 → ∀ k, V.ownBlock = some k → k ≠ g := fun hb ht k hv e => by
      obtain ⟨cur, hc⟩ := row25 _ hv
      exact blk_ne hc hb (fun h => ht h.symm) e
    have SX := St.make2 [⟨1000, b0, 29, [.v (.slice none 0 0)]⟩, ⟨1001, b1, 30, [.v (.int .i64 0)]⟩, ⟨1002, b2, 91, wSV c ++ [SV.gr 0]⟩] 0 (wGQ ws) V (slots := [(4, .own 1000 0), (5, .own 1001 0), (6, .own 1002 0)]) (a := { a2 with defers := { target := .collected D, args := #[] } :: a2.defers }) (w := W5) (n := f35.ntmps) ⟨t4, t5, t6, trivial⟩ hz2 ⟨k0, k1, k2, trivial⟩ ⟨⟨blk_ne k0 k1 (by decide), blk_ne k0 k2 (by decide), trivial⟩, ⟨blk_ne k1 k2 (by decide), trivial⟩, trivial, trivial⟩ hG (fun k hk => ⟨nV k0 (by decide) k hk, nV k1 (by decide) k hk, fun (e : k = b2) => hVne (e ▸ hk), trivial⟩)
    refine sym_seq lay_ok mixed [] [4, 5] [1000, 1001] (⟨[(4, .own 1000 0), (5, .own 1001 0)], ⟨[(1000, .blk 29 [.gr 0]), (1001, .blk 30 [.v (.int .i64 0)])], [], [(0, wGQ ws)]⟩⟩) [] SX (by kernel_rfl) (by kernel_rfl) (by kernel_rfl) trivial fun E9 a9 W9 S9 => ?_
    refine wp_ret ?_
    have g0 := S9.mem.blk 1000 _ _ rfl
    have g1 := S9.mem.blk 1001 _ _ rfl
    have hG9 := S9.mem.gr 0 _ rfl
    have p0 : E9.ρ 1000 = b0 := S9.pin.1 1000 (by decide)
    have p1 : E9.ρ 1001 = b1 := S9.pin.1 1001 (by decide)
    have u4 := S9.slot 4 _ rfl
    have u5 := S9.slot 5 _ rfl
    have gb := S9.sep.ginj.2 0 (wGQ ws)
    have hk9 := S9.kept
    have hd9 : a9.defers = { target := .collected D, args := #[] } :: a2.defers := S9.defers
    have hz9 : a9.tmps.size = f35.ntmps := S9.size
    simp only [SV.vals, SV.val] at g0 g1 u4 u5
    rw [p0] at g0 u4
    rw [p1] at g1 u5
    generalize E9.gr 0 = V9 at *
    have hC : ∀ k, (inCB [⟨1000, b0, 29, [.v (.slice none 0 0)]⟩, ⟨1001, b1, 30, [.v (.int .i64 0)]⟩, ⟨1002, b2, 91, wSV c ++ [SV.gr 0]⟩] k ∨ V.ownBlock = some k) → k = b0 ∨ k = b1 ∨ k = b2 ∨ V.ownBlock = some k := fun k h => by
      rcases h with ⟨y, hy, rfl⟩ | h
      · simp only [List.mem_cons, List.not_mem_nil, or_false] at hy
        rcases hy with rfl | rfl | rfl
        · exact .inl rfl
        · exact .inr (.inl rfl)
        · exact .inr (.inr (.inl rfl))
      · exact .inr (.inr (.inr h))
    have hCW : ∀ k, (k = b0 ∨ k = b1 ∨ k = b2 ∨ V.ownBlock = some k) → W.heap.size ≤ k ∧ k ≠ D := fun k h => by
      rcases h with rfl | rfl | rfl | h
      · exact ⟨n0, hDn.1.symm⟩
      · exact ⟨n1, hDn.2.1.symm⟩
      · exact ⟨n2, hDn.2.2.1.symm⟩
      · exact ⟨hVB k h, fun e => hDn.2.2.2 (e ▸ h)⟩
    have hD9 : W9.heap[D]? = some (.deferred (some [])) := (hk9.block D hDl (fun h => (hCW D (hC D h)).2 rfl)).trans hDd
    rw [hd2] at hd9
    rw [← hf]
    refine fol_leave (D := D) hz9 u4 u5 g0 g1 hG9 (fun k hk => ?_) (below_on hbl hk9 fun k h => (hCW k (hC k h)).1) hD9 (Nat.le_trans hb2.size hD) ⟨hDn.1, hDn.2.1, fun e => ?_⟩ hd9
    · rcases gb k rfl hk with h | h
      · exact Nat.le_trans hbl.size h
      · exact (hCW k (hC k h)).1
    · rcases gb D rfl e with h | h
      · exact absurd h (Nat.not_le_of_lt hDl)
      · exact (hCW D (hC D h)).2 rfl
  · -- a point with an error
    intro D cd pre S W5 hD hDl hSD hp hI hg hDd
    obtain ⟨rfl, V, k0, k1, hG, hVB, hS, hlt, hbl⟩ := hI
    refine wpIn_ret ?_
    refine out_block_ret ?_
    refine out_then_ret ?_
    have hd : (({ a2 with defers := { target := .collected D, args := #[] } :: a2.defers } : Act)).defers = [{ target := .collected D, args := #[] }] := by simp [hd2]
    exact fol_leave (D := D) (a := { a2 with defers := { target := .collected D, args := #[] } :: a2.defers }) hz2 t4 t5 k0 k1 hG hVB hbl hDd (Nat.le_trans hb2.size hD) ⟨fun e => hSD (hS D (.inl e)), fun e => hSD (hS D (.inr (.inl e))), fun e => hSD (hS D (.inr (.inr e)))⟩ hd
end Go.Proofs.Ytlcccomdijdkaaa
namespace Go.Proofs.Ytlcccomdijdkaaa
open Go.RowKit Go.Proofs.Try

abbrev pQ (l : List MPoint) : Q := ⟨l.length, 9, fun i => pCells (l.getD i default)⟩
/-- a world in which blocks have turned in which the slice does not lie -/
theorem vMoved {X : Ctx} {st : SState} {E : Env} {a : Act} {w w' : World} {q : Q} {A : Option Addr} {r : RS} {DD C : Nat → Prop} (S : St X st E a w) (hb : st.m.blks = []) (hg : st.m.grs = []) (hr : st.m.rds = [(0, q)]) (hs : E.sl 0 = r) (hA0 : r.A = A)
    (r0 : InR DD A q.len) (hC : ∀ k, C k → ¬ DD k) (hk : Kept C w w') : St ⟨w', noC, X.n, X.D, allR, E.ρ, E.sl, E.x⟩ st E a w' := by
  refine St.seed (St.moved (S.seed hb hg C) hk (fun s q bb off hq hl hA => ?_) (fun g Φ hx => by rw [hb] at hx; simp [look] at hx) (fun k _ hc => ⟨fun ho => ?_, .inr hc⟩)) hb hg noC
  · rw [hr] at hq
    intro hc
    rcases look_cases hq with ⟨rfl, rfl⟩ | ⟨_, h2⟩
    · rw [hs, hA0] at hA
      exact hC _ hc (r0 bb off hl hA)
    · simp [look] at h2
  · rcases ho with ⟨g, t, cs, hx, _⟩ | ⟨j, q, hq, _⟩
    · rw [hb] at hx; simp [look] at hx
    · rw [hg] at hq; simp [look] at hq
abbrev vH (ln : Nat) (l : List MPoint) (i : Nat) : SState := ⟨[(0, .v (.func (.yield ln) #[] #[])), (5, .sl 0), (6, .v (.int .i64 l.length)), (7, .v (.int .i64 i))], ⟨[], [(0, pQ l)], []⟩⟩
structure VInv (ln : Nat) (l : List MPoint) (A : Option Addr) (cap : Nat) (W : World) (S1 : Nat → Prop) (J : List MPoint → (Nat → Prop) → World → Prop) (m i : Nat) (E : Env) (a : Act) (wr : World) : Prop where
  st : St ⟨wr, noC, f55.ntmps, [], allR, E.ρ, E.sl, E.x⟩ (vH ln l i) E a wr
  sl : E.sl 0 = ⟨A, l.length, cap, 9⟩
  le : i ≤ l.length
  lt : l.length < i + m
  ex : ∃ S', J (l.take i) S' wr ∧ Grows S1 W S'
  sz : W.heap.size ≤ wr.heap.size
theorem drop_cons {α : Type} [Inhabited α] {l : List α} {i : Nat} (hi : i < l.length) : l.drop i = l.getD i default :: l.drop (i + 1) := by
  rw [List.drop_eq_getElem_cons hi]; simp [List.getD, hi]
theorem take_more {α : Type} [Inhabited α] {l : List α} {i : Nat} (hi : i < l.length) : l.take (i + 1) = l.take i ++ [l.getD i default] := by
  rw [List.take_add_one]; simp [List.getD, hi]

set_option maxRecDepth 100000 in
set_option maxHeartbeats 4000000 in
theorem valuesSeq (l : List MPoint) (A : Option Addr) (cap x : Nat) (w : World) (hl64 : (l.length : Int) ≤ 4611686018427387904) (h0 : l.length ≤ cap) (s0 : SlAt w A l.length 9 fun i => pCells (l.getD i default)) (bx : Blk w x 26 #[.slice A l.length cap]) :
    SeqT (FW none) prog 55 #[.pointer (some ⟨x, 0, none⟩)] encP l none (fun _ => False) (fun k => k < w.heap.size) (fun _ => True) w := by
  intro n ln J Jx W S1 hW hS hJ hJx hY hJ0
  refine (callsIn_wide (n := n)).2 ?_
  obtain ⟨DD, hDD⟩ : ∃ DD : Nat → Prop, DD = fun k => k < w.heap.size := ⟨_, rfl⟩
  have sW := s0.later hW
  have xW : Blk W x 26 #[.slice A l.length cap] := (hW.block x bx.lt).trans bx
  have rW : InR DD A l.length := fun bb off hl hA => by
    obtain ⟨b', off', hA', hlt, _⟩ := s0 hl
    rw [hA'] at hA
    have e : b' = bb := by simpa using congrArg (fun o => (o.map Addr.block).getD 0) hA
    rw [hDD]
    show bb < w.heap.size
    omega
  have hzW : w.heap.size ≤ W.heap.size := hW.size
  have hS1D : ∀ k, S1 k → ¬ DD k := fun k hk => by rw [hDD]; exact (hS k hk).1
  have hDs : ∀ k, DD k → k < w.heap.size := fun k hk => by rw [hDD] at hk; exact hk
  have hxl : x < w.heap.size := bx.lt
  clear s0 bx hW hS hDD
  have e1 : SlAt W (some ⟨x, 0, none⟩) 1 1 fun _ => [.slice A l.length cap] := SlAt.of_blk (vs := [.slice A l.length cap]) xW fun i hi j u hu => by
    have : i = 0 := by omega
    subst this
    simpa using hu
  refine sym_enter_at (f := 55) (fn := f55) (c := f55.body.get rfl) func55 rfl [.v (.func (.yield ln) #[] #[]), .at 1 0 0] [(0, pQ l), (1, ⟨1, 1, fun _ => [.slice A l.length cap]⟩)] [] (envOf [(0, ⟨A, l.length, cap, 9⟩), (1, ⟨some ⟨x, 0, none⟩, 1, 1, 1⟩)]) noC allR noρ (fun _ _ => rfl) (by kernel_rfl) (envOf_one trivial) (fun g t cs hx => by simp [look] at hx) (fun g g' t t' cs cs' hx => by simp [look] at hx) (fun g Φ hx => by simp [look] at hx)
    ⟨sW.rd h0, e1.rd (Nat.le_refl _), trivial⟩ (fun s q b off hq hl hA => ⟨trivial, fun g t cs hx => by simp [look] at hx⟩) fun a S => ?_
  refine sym_seq lay_ok mixed [] [0, 5, 6, 7] [] (⟨[(0, .v (.func (.yield ln) #[] #[])), (5, .v (.slice A l.length cap)), (6, .v (.int .i64 l.length)), (7, .v (.int .i64 0))], ⟨[], [(0, pQ l), (1, ⟨1, 1, fun _ => [.slice A l.length cap]⟩)], []⟩⟩) [.idx 0 1] S (by kernel_rfl) (by kernel_rfl) (by kernel_rfl) ⟨⟨by decide, by decide⟩, trivial⟩ fun E a w0 S => ?_
  have hk0 : Kept noC W w0 := S.kept
  have I0 : VInv ln l A cap W S1 J (l.length + 1) 0 E a w0 := by
    have hs : E.sl 0 = ⟨A, l.length, cap, 9⟩ := S.pin.2.1 0 (by decide)
    have S2 := (S.reslot (t := 5) (sv' := .sl 0) rfl (by simp only [SV.val, hs])).seed rfl rfl noC
    have S3 := St.cast (P := prog) [] [] [0, 5, 6, 7] [] [0] (vH ln l 0) [] (by kernel_rfl) trivial S2
    exact ⟨S3, hs, Nat.zero_le _, by omega, ⟨S1, by rw [List.take_zero]; exact hJ.1 _ _ _ _ hJ0 (hk0.mono fun k _ h => h.elim), fun k h => .inl h⟩, hk0.size⟩
  clear S hk0 hJ0 e1 sW xW
  refine wp_block ?_
  refine wp_loop_rounds (l.length + 1) ?_
  generalize l.length + 1 = M at I0 ⊢
  have I1 : ∃ i, VInv ln l A cap W S1 J M i E a w0 := ⟨0, I0⟩
  clear I0
  obtain ⟨i, I0⟩ := I1
  induction M generalizing i E a w0 with
  | zero => have := I0.le; have := I0.lt; omega
  | succ M ih =>
  rw [rounds_succ]
  obtain ⟨S, hsl, hle, hlt, ⟨S', hj, hg⟩, hsz⟩ := I0
  refine sym_seq lay_ok mixed [] [0, 5, 6, 7, 8] [] (⟨[(0, .v (.func (.yield ln) #[] #[])), (5, .sl 0), (6, .v (.int .i64 l.length)), (7, .v (.int .i64 i)), (8, .v (.bool (decide ((i : Int) < l.length))))], ⟨[], [(0, pQ l)], []⟩⟩) [] S (by kernel_rfl) (by kernel_rfl) (by kernel_rfl) trivial fun E1 a1 w1 SA => ?_
  have hk1 : Kept noC w0 w1 := SA.kept
  have hj1 : J (l.take i) S' w1 := hJ.1 _ _ _ _ hj (hk1.mono fun k _ h => h.elim)
  have hsl1 : E1.sl 0 = ⟨A, l.length, cap, 9⟩ := (SA.pin.2.1 0 (by decide)).trans hsl
  have hsz1 : W.heap.size ≤ w1.heap.size := Nat.le_trans hsz hk1.size
  have SB : St ⟨w1, noC, f55.ntmps, [], allR, E1.ρ, E1.sl, E1.x⟩ _ E1 a1 w1 := SA.seed rfl rfl noC
  clear SA S hj hsl hk1
  refine sym_if (b := decide ((i : Int) < l.length)) SB rfl (fun hb => ?_) (fun hb => ?_)
  case refine_2 =>
    have hi : i = l.length := by have := of_decide_eq_false hb; omega
    refine wp_exit ?_
    refine out_then_exit ?_
    refine out_then_exit ?_
    refine out_block_here ?_
    refine body_normal ?_
    refine sym_ret lay_ok [] (by kernel_rfl) rfl SB ⟨S', hg, hsz1, .inl ⟨by rw [hi, List.take_length] at hj1; exact hj1, ⟨_, rfl⟩, trivial⟩⟩
  case refine_1 =>
    have hi : i < l.length := by have := of_decide_eq_true hb; omega
    refine wp_skip ?_
    refine out_then_normal ?_
    refine wp_seq ?_
    refine wp_block ?_
    refine sym_seq lay_ok mixed [(2, { g := 0 })] [0, 4, 5, 6, 7] [0] (⟨[(0, .v (.func (.yield ln) #[] #[])), (4, .own 0 0), (5, .sl 0), (6, .v (.int .i64 l.length)), (7, .v (.int .i64 i))], ⟨[(0, .blk 47 (pSV (l.getD (Int.toNat i) default)))], [(0, pQ l)], []⟩⟩) [.idx i l.length, .idx i l.length] SB (by kernel_rfl) (by kernel_rfl) (by kernel_rfl) ⟨⟨by omega, by omega⟩, ⟨by omega, by omega⟩, trivial⟩ fun E2 a2 w2 SA => ?_
    refine wp_seq ((wpIn_wide (n := 0)).1 (sym_openI (ro := none) ?_))
    refine sym_runIP (n := 0) (ro := none) lay_ok [] 0 2 [0, 5, 6, 7, 11, 12] [] (⟨[(0, .v (.func (.yield ln) #[] #[])), (5, .sl 0), (6, .v (.int .i64 l.length)), (7, .v (.int .i64 i)), (11, .v (.func (.yield ln) #[] #[])), (12, .agg (pSV (l.getD (Int.toNat i) default)))], ⟨[], [(0, pQ l)], []⟩⟩) [] SA (by kernel_rfl) (by kernel_rfl) (by kernel_rfl) trivial fun E3 a3 w3 SC => ?_
    have hk3 : Kept noC w1 w3 := SC.kept
    have hj3 : J (l.take i) S' w3 := hJ.1 _ _ _ _ hj1 (hk3.mono fun k _ h => h.elim)
    have hsl3 : E3.sl 0 = ⟨A, l.length, cap, 9⟩ := (SC.pin.2.1 0 (by decide)).trans hsl1
    have hsz3 : W.heap.size ≤ w3.heap.size := Nat.le_trans hsz1 hk3.size
    rw [show Int.toNat (i : Int) = i from rfl] at SC
    have SD : St ⟨w3, noC, f55.ntmps, [], allR, E3.ρ, E3.sl, E3.x⟩ _ E3 a3 w3 := SC.seed rfl rfl noC
    clear SA SB SC hj1 hk3
    have hSD : ∀ k, S' k → ¬ DD k := fun k hk h => by
      rcases hg k hk with h1 | h1
      · exact hS1D k h1 h
      · have := hDs k h; omega
    have t11 := SD.slot 11 _ rfl
    have t12 := SD.slot 12 _ rfl
    refine sym_yield (x := .tmp 11) (y := .tmp 12) (u := .agg (pCells (l.getD i default)).toArray) rfl rfl (by simp [Act.eval, t11, SV.val]) (by simp [Act.eval, t12, SV.val, SV.vals]) (hY (l.take i) (l.getD i default) (l.drop (i + 1)) w3 S' (by rw [← drop_cons hi, List.take_append_drop]) hj3 hg hsz3 _) ?_
    clear t11 t12
    rintro e w5 ⟨S'', hg5, hk5, he5⟩
    have hgg : Grows S1 W S'' := fun k hk => by
      rcases hg5 k hk with h | h
      · exact hg k h
      · right; omega
    have hsz5 : W.heap.size ≤ w5.heap.size := Nat.le_trans hsz3 hk5.size
    have S6 : St ⟨w5, noC, f55.ntmps, [], allR, E3.ρ, E3.sl, E3.x⟩ _ E3 a3 w5 := vMoved SD rfl rfl rfl hsl3 rfl rW hSD hk5
    obtain ⟨t, rfl, hjt⟩ : ∃ t, e = .returned (.bool t) ∧ (if t = true then J (l.take i ++ [l.getD i default]) S'' w5 else Jx (l.take i ++ [l.getD i default]) S'' w5) := by
      rcases he5 with ⟨rfl, h⟩ | ⟨rfl, h⟩
      · exact ⟨true, rfl, by simpa using h⟩
      · exact ⟨false, rfl, by simpa using h⟩
    clear he5 SD
    refine ⟨_, rfl, ?_⟩
    have S7 : St ⟨w5, noC, f55.ntmps, [], allR, E3.ρ, E3.sl, E3.x⟩ _ E3 (a3.put (some 13) (.bool t)) w5 := S6.put (d := 13) (by kernel_rfl) (.v (.bool t))
    generalize a3.put (some 13) (.bool t) = a5 at S7 ⊢
    clear S6
    refine sym_runIP (n := 0) (ro := none) lay_ok [] 3 1 [0, 5, 6, 7, 14] [] (⟨[(0, .v (.func (.yield ln) #[] #[])), (5, .sl 0), (6, .v (.int .i64 l.length)), (7, .v (.int .i64 i)), (14, .v (.bool (!t)))], ⟨[], [(0, pQ l)], []⟩⟩) [] S7 (by kernel_rfl) (by kernel_rfl) (by kernel_rfl) trivial fun E4 a6 w6 S8 => ?_
    refine sym_doneI rfl ?_
    refine out_then_normal ?_
    have hk6 : Kept noC w5 w6 := S8.kept
    have hsl6 : E4.sl 0 = ⟨A, l.length, cap, 9⟩ := (S8.pin.2.1 0 (by decide)).trans hsl3
    have hsz6 : W.heap.size ≤ w6.heap.size := Nat.le_trans hsz5 hk6.size
    refine sym_if_last (b := !t) S8 rfl (fun hb => ?_) (fun hb => ?_)
    case refine_1 =>
      have ht : t = false := by simpa using hb
      subst ht
      simp only [Bool.false_eq_true, if_false] at hjt
      have hj6 : Jx (l.take i ++ [l.getD i default]) S'' w6 := hJx.1 _ _ _ _ hjt (hk6.mono fun k _ h => h.elim)
      refine wp_ret ?_
      refine out_block_ret ?_
      refine out_then_ret ?_
      refine out_then_ret ?_
      refine out_block_ret ?_
      exact sym_ret lay_ok [] (by kernel_rfl) rfl S8 ⟨S'', hgg, hsz6, .inr ⟨⟨_, rfl⟩, l.take i ++ [l.getD i default], ⟨l.drop (i + 1), by rw [List.append_assoc, List.singleton_append, ← drop_cons hi, List.take_append_drop]⟩, hj6⟩⟩
    case refine_2 =>
      have ht : t = true := by simpa using hb
      subst ht
      simp only [if_true] at hjt
      have hj6 : J (l.take (i + 1)) S'' w6 := by rw [take_more hi]; exact hJ.1 _ _ _ _ hjt (hk6.mono fun k _ h => h.elim)
      refine wp_skip ?_
      refine out_block_normal ?_
      refine out_then_normal ?_
      replace S8 : St ⟨w6, noC, f55.ntmps, [], allR, E4.ρ, E4.sl, E4.x⟩ _ E4 a6 w6 := S8.seed rfl rfl noC
      refine sym_last lay_ok mixed [] [0, 5, 6, 7] [] (vH ln l (i + 1)) [.rng .i64 (i + 1)] S8 (by kernel_rfl) (by kernel_rfl) (by kernel_rfl) ⟨rngI64 ⟨by omega, by omega⟩, trivial⟩ fun E5 a7 w7 S9 => ?_
      refine out_then_normal ?_
      have hk7 : Kept noC w6 w7 := S9.kept
      exact ih E5 a7 w7 _ ⟨S9.seed rfl rfl noC, (S9.pin.2.1 0 (by decide)).trans hsl6, by omega, by omega, ⟨S'', hJ.1 _ _ _ _ hj6 (hk7.mono fun k _ h => h.elim), hgg⟩, Nat.le_trans hsz6 hk7.size⟩
end Go.Proofs.Ytlcccomdijdkaaa
namespace Go.Proofs.Ytlcccomdijdkaaa
open Go.RowKit

variable {P : Program} {X : Ctx} {E : Env} {a : Act} {w : World} {st : SState}

/-- letter 0 is such a slice, and lies in no block of below B -/
def SliceNew (B : Nat) (q : Q) : (Nat → Value) → World → Prop := fun v w => SliceIs 0 q v w ∧ ∀ A n c, v 0 = .slice A n c → InR (fun k => B ≤ k) A n
theorem SliceNew.of {B N : Nat} {q : Q} {v : Nat → Value} (hB : B ≤ N) (h : HeldIn (fun k => N ≤ k) w (SlicesAre 0 [q] v)) (h0 : 0 < q.len → q.get 0 ≠ []) : HeldIn (fun k => N ≤ k) w (SliceNew B q v) := by
  obtain ⟨⟨A, cap, hv, hcap, hs⟩, _⟩ := h.out
  have hr : InR (fun k => N ≤ k) A q.len := h.row (fun w' hw' => by
    obtain ⟨⟨A', cap', hv', _, hs'⟩, _⟩ := hw'
    rw [hv] at hv'
    injection hv' with e
    rw [e]; exact hs') h0
  obtain ⟨D, hD, hk⟩ := h
  exact ⟨D, hD, fun w' hw' => ⟨(hk w' hw').1, fun A' n c e b off hl hA => by
    rw [hv] at e
    injection e with e1 e2 e3
    subst e1 e2
    exact Nat.le_trans hB (hr b off hl hA)⟩⟩
/-- it is returned -/
theorem SliceNew.back {R : Nat → Prop} {B : Nat} {q : Q} {v u : Nat → Value} {j : Nat} (h : HeldIn R w (SliceNew B q v)) (hu : u j = v 0) (h0 : ∀ i, i < q.len → q.get i ≠ []) : HeldIn (fun k => B ≤ k) w (SliceIs j q u) := by
  obtain ⟨⟨A, cap, hv, hcap, hs⟩, hn⟩ := h.out
  have hN := hn _ _ _ hv
  rcases Nat.eq_zero_or_pos q.len with hz | hz
  · exact ⟨fun _ => False, fun k hk => hk.elim, fun w' _ => ⟨A, cap, hu.trans hv, hcap, fun hl => by omega⟩⟩
  · obtain ⟨b, off, hA, hlt, hc⟩ := hs hz
    refine ⟨fun k => k = b, fun k hk => by subst hk; exact ⟨hlt, hN k off hz hA⟩, fun w' hw' => ⟨A, cap, hu.trans hv, hcap, fun _ => ⟨b, off, hA, ?_, fun i hi j v hj => (World.cell?_of_block (hw' b rfl)).trans (hc i hi j v hj)⟩⟩⟩
    have h1 : w.heap[b]? = some w.heap[b] := by simp [hlt]
    have := (hw' b rfl).trans h1
    exact (Array.getElem?_eq_some_iff.1 this).1
/-- how long it is -/
theorem pure_len {lay : Lay} (hl : LayOK P lay) {B g j s n : Nat} {t : TypeId} {Φ : (Nat → Value) → World → Prop} {m : MState} {e es k : Nat} {z : List Value} {eq : Bool} {by' : Nat} (ht : look lay t = some ⟨.sli e es, k, z, eq, by'⟩) (hm : look m.blks g = some (.held Φ)) (hΦ : ∀ v w, Φ v w → ∃ A c, v j = .slice A n c) :
    (Ob.pure m (.call ⟨.builtin .len, #[.tmp s], #[t]⟩) [.ltr g j] (.v (.int .i64 n))).holds P B := by
  intro E w R ρ dst ty pos aft gd hM hx
  obtain ⟨A, c, hv⟩ := hΦ _ _ (hM.held g Φ hm).out
  have e1 : ρ (.tmp s) = .slice A n c := by
    have : ρ (.tmp s) = E.x g j := by simpa [Op.operands, Call.operands, SV.vals, SV.val] using hx
    rw [this, hv]
  obtain ⟨u, hu, hmm⟩ := (hl t _ ht).under
  obtain ⟨rfl, _⟩ := hmm
  simp only [execOp, resolve, Sem.run_bind, Sem.run_pure, Result.andThen_ok, invoke, builtin, Builtin.len_]
  simp [run_underlying hu, goInt, go_sem, e1, SV.val]
/-- a slice that is read stays as it is while its block does -/
theorem St.rd_held (S : St X st E a w) {s : Nat} {q : Q} (hq : look st.m.rds s = some q) (h0 : ∀ i, i < q.len → q.get i ≠ []) : HeldIn (fun k => X.w0.heap.size ≤ k ∨ X.R k) w (fun w' => RdAt w' q (E.sl s)) := by
  obtain ⟨h1, h2, h3, h4⟩ := S.mem.rd s q hq
  rcases Nat.eq_zero_or_pos q.len with hz | hz
  · exact ⟨fun _ => False, fun k hk => hk.elim, fun w' _ => ⟨h1, h2, h3, fun hl => by omega⟩⟩
  · obtain ⟨b, off, hA, hlt, hc⟩ := h4 hz
    refine ⟨fun k => k = b, fun k hk => by subst hk; exact ⟨hlt, (S.sep.rd s q _ off hq hz hA).2⟩, fun w' hw' => ⟨h1, h2, h3, fun _ => ⟨b, off, hA, ?_, fun i hi j v hj => (World.cell?_of_block (hw' b rfl)).trans (hc i hi j v hj)⟩⟩⟩
    have h1 : w.heap[b]? = some w.heap[b] := by simp [hlt]
    have := (hw' b rfl).trans h1
    exact (Array.getElem?_eq_some_iff.1 this).1
theorem RdAt.sl {q : Q} {r : RS} (h : RdAt w q r) : r.len = q.len ∧ q.len ≤ r.cap ∧ SlAt w r.A q.len q.n q.get := ⟨h.1, h.2.2.1, h.2.2.2⟩
end Go.Proofs.Ytlcccomdijdkaaa
