/- Arguments opened: ints, structs of ints by value, slices of ints, slices of such slices, slices of structs of ints. -/
import Derived.Test.YtcghafdemklnnaaSample
import Derived.ProofKit
import Derived.SizedLaws
import Derived.OpenShut
import Derived.Deep.Slices
import Derived.Lib.SmallJoins
namespace Go.Proofs.Ytcghafdemklnnaa
open Go.ChangeShapes Go.WideShapes Go.ChangeAt Go.RowKit Go.Deep

theorem cell_lt {w : World} {b o : Nat} {v : Value} (h : w.cell? ⟨b, o, none⟩ = some v) : b < w.heap.size := by
  rcases Nat.lt_or_ge b w.heap.size with h1 | h1
  · exact h1
  · simp [World.cell?, h1] at h

section
variable {P : Program} {w : World} {r : Reach} {base : Nat} {t : TypeId} {v : Value}
theorem okInt {k : IntKind} (ht : P.underlying t = some (.int k)) (h : Value.okWide P w r base t v) : ∃ n, v = .int k n ∧ k.min ≤ n ∧ n ≤ k.max := by
  simp only [Value.okWide, ht, Cell.okWide] at h
  cases v <;> simp_all [Cell.ok, IntKind.has]

theorem okAgg {k : IntKind} {n : Nat} {ts : List TypeId} (hs : (∃ fs, P.underlying t = some (.struct fs)) ∨ ∃ a b, P.underlying t = some (.array a b)) (hn : P.cellsOf t = n) (hts : P.cellTypes P.depth t = some ts)
    (hall : ∀ u ∈ ts, P.underlying u = some (TypeDesc.int k)) (h : Value.okWide P w r base t v) : ∃ xs : List Int, xs.length = n ∧ v = .agg (xs.map (Value.int k)).toArray ∧ ∀ x ∈ xs, k.min ≤ x ∧ x ≤ k.max := by
  have h' : ∃ cs, v = .agg cs ∧ cs.size = P.cellsOf t ∧ Row.okWide P w r base t cs := by
    rcases hs with ⟨fs, hs⟩ | ⟨a, b, hs⟩ <;> · simp only [Value.okWide, hs] at h; exact h
  obtain ⟨cs, rfl, hsz, ts', hts', _, hc⟩ := h'
  rw [hts] at hts'
  cases hts'
  have key : ∀ (i : Nat) (v : Value), cs[i]? = some v → ∃ n, v = Value.int k n ∧ k.min ≤ n ∧ n ≤ k.max := by
    intro i v hv
    obtain ⟨u, hu, hok⟩ := hc i v hv
    have hu'' := hall u (List.mem_of_getElem? hu)
    simp only [Cell.okWide, hu''] at hok
    cases v <;> simp_all [Cell.ok, IntKind.has]
  obtain ⟨cs⟩ := cs
  have key' : ∀ v ∈ cs, ∃ n, v = Value.int k n ∧ k.min ≤ n ∧ n ≤ k.max := by
    intro v hv
    obtain ⟨i, hi⟩ := List.mem_iff_getElem?.1 hv
    exact key i v (by simpa using hi)
  have : ∀ cs : List Value, (∀ v ∈ cs, ∃ n, v = Value.int k n ∧ k.min ≤ n ∧ n ≤ k.max) → ∃ xs : List Int, cs = xs.map (Value.int k) ∧ ∀ x ∈ xs, k.min ≤ x ∧ x ≤ k.max := by
    intro cs
    induction cs with
    | nil => exact fun _ => ⟨[], rfl, by simp⟩
    | cons c cs ih =>
      intro hall
      obtain ⟨n, rfl, hn⟩ := hall c (by simp)
      obtain ⟨xs, rfl, hx⟩ := ih (fun v hv => hall v (by simp [hv]))
      exact ⟨n :: xs, rfl, by simpa using ⟨hn, hx⟩⟩
  obtain ⟨xs, rfl, hx⟩ := this cs key'
  exact ⟨xs, by simpa [hn] using hsz, rfl, hx⟩
end

set_option maxRecDepth 100000 in
theorem open_span {w : World} {r : Reach} {base : Nat} {v : Value} (h : Value.okWide Try.prog w r base 27 v) : ∃ a b : Int, v = .agg #[.int .i64 a, .int .i64 b] ∧ (-9223372036854775808 ≤ a ∧ a ≤ 9223372036854775807) ∧ (-9223372036854775808 ≤ b ∧ b ≤ 9223372036854775807) := by
  obtain ⟨xs, hn, rfl, hx⟩ := okAgg (k := .i64) (n := 2) (ts := [3, 3]) (.inl ⟨_, Try.underlying27⟩) (by kernel_rfl) (by kernel_rfl) (by intro u hu; simp at hu; subst hu; exact Try.underlying3) h
  match xs, hn with
  | [a, b], _ => exact ⟨a, b, rfl, hx a (by simp), hx b (by simp)⟩
set_option maxRecDepth 100000 in
theorem open_part {w : World} {r : Reach} {base : Nat} {v : Value} (h : Value.okWide Try.prog w r base 41 v) : ∃ a b c d : Int, v = .agg #[.int .i64 a, .int .i64 b, .int .i64 c, .int .i64 d] ∧ (-9223372036854775808 ≤ a ∧ a ≤ 9223372036854775807) ∧ (-9223372036854775808 ≤ b ∧ b ≤ 9223372036854775807) ∧ (-9223372036854775808 ≤ c ∧ c ≤ 9223372036854775807) ∧ (-9223372036854775808 ≤ d ∧ d ≤ 9223372036854775807) := by
  obtain ⟨xs, hn, rfl, hx⟩ := okAgg (k := .i64) (n := 4) (ts := [3, 3, 3, 3]) (.inl ⟨_, Try.underlying41⟩) (by kernel_rfl) (by kernel_rfl) (by intro u hu; simp at hu; subst hu; exact Try.underlying3) h
  match xs, hn with
  | [a, b, c, d], _ => exact ⟨a, b, c, d, rfl, hx a (by simp), hx b (by simp), hx c (by simp), hx d (by simp)⟩

section
variable {H : Type} {enc : TypeId × Value → H} {P : Program} {w : World} {base : Nat} {spare : Nat → Bool} {held : Bool}
theorem weightsAll_mem {e : TypeId} {ds : List (DataW H)} {d : DataW H} (hd : d ∈ ds) {n : Nat} (hn : n ∈ d.weights P e) : n ∈ DataW.weightsAll P e ds := by
  induction ds with
  | nil => cases hd
  | cons x ds ih =>
    rw [DataW.weightsAll, List.mem_append]
    rcases List.mem_cons.1 hd with rfl | h
    · exact .inl hn
    · exact .inr (ih h)

theorem wf_i64 {n : Int} (h : (Lit.int .i64 n).wf = true) : -9223372036854775808 ≤ n ∧ n ≤ 9223372036854775807 := by
  simp only [Lit.wf, Bool.and_eq_true, decide_eq_true_eq] at h
  have h1 : IntKind.i64.min = -9223372036854775808 := rfl
  have h2 : IntKind.i64.max = 9223372036854775807 := rfl
  omega

theorem open_ints_at {t e : TypeId} {fuel : Nat} {v : Value} {x : DataW H × List MemPlace} (ht : P.underlying t = some (.slice e)) (he : P.underlying e = some (.int .i64)) (hc : P.cellsOf e = 1) (hb : P.bytesOf e = 8)
    (h : DataW.trod enc P w base spare held fuel t [v] = some x) (hw : ∀ n ∈ x.1.weights P t, n ≤ reachBytes) :
    ∃ (A : Option Addr) (xs : List Int) (c : Nat), v = .slice A xs.length c ∧ IntsAt w A xs.length xs ∧ xs.length ≤ 140737488355328 ∧ ∀ n ∈ xs, -9223372036854775808 ≤ n ∧ n ≤ 9223372036854775807 := by
  rcases open_ints ht he hc h with ⟨hcs, _⟩ | ⟨a, len, cap, zs, hcs, _, hl, _, hz, hx, hcell, hwf⟩
  · simp only [List.cons.injEq, and_true] at hcs
    exact ⟨none, [], 0, hcs, ⟨rfl, fun h => absurd h (Nat.lt_irrefl 0)⟩, by simp, by simp⟩
  · simp only [List.cons.injEq, and_true] at hcs
    have hlz : len ≤ zs.length := by rw [hz]; split <;> omega
    have hlen : (zs.take len).length = len := by simp; omega
    have h1 := hw (((lits (H := H) .i64 (zs.take len)).length + (lits (H := H) .i64 (zs.drop len)).length) * P.bytesOf e) (by rw [hx]; simp [DataW.weights, ht])
    rw [hb] at h1
    simp only [lits, List.length_map, reachBytes] at h1
    refine ⟨some a, zs.take len, cap, by rw [hlen]; exact hcs, ⟨rfl, fun h0 => ?_⟩, by omega, fun n hn => wf_i64 (hwf n (List.mem_of_mem_take hn))⟩
    obtain ⟨b, off, rfl, hc'⟩ := ints_at hcell (by omega)
    refine ⟨b, off, rfl, ?_, fun j hj => ?_⟩
    · exact cell_lt (hc' 0 (by omega))
    · rw [hc' j (by omega), List.getElem?_take]
      have : j < len := by omega
      simp [this, List.getD]

theorem open_rows_at {t e i : TypeId} {fuel : Nat} {v : Value} {x : DataW H × List MemPlace} (ht : P.underlying t = some (.slice e)) (he : P.underlying e = some (.slice i)) (hi : P.underlying i = some (.int .i64)) (hc1 : P.cellsOf e = 1) (hc : P.cellsOf i = 1) (hb : P.bytesOf i = 8) (hb1 : P.bytesOf e = 24)
    (h : DataW.trod enc P w base spare held fuel t [v] = some x) (hw : ∀ n ∈ x.1.weights P t, n ≤ reachBytes) :
    ∃ (A : Option Addr) (rows : List (List Int)) (c : Nat), v = .slice A rows.length c ∧ RowsAt w A rows.length rows ∧ rows.length ≤ 140737488355328 ∧ (∀ i : Nat, (rows[i]?.getD []).length ≤ 140737488355328) ∧ ∀ r ∈ rows, ∀ n ∈ r, -9223372036854775808 ≤ n ∧ n ≤ 9223372036854775807 := by
  rcases open_slice1 ht hc1 h with ⟨hcs, _⟩ | ⟨a, len, cap, m, n, V, D, Pl, hcs, _, hl, _, hmm, hx, hel⟩
  · simp only [List.cons.injEq, and_true] at hcs
    exact ⟨none, [], 0, hcs, ⟨rfl, fun h => absurd h (Nat.lt_irrefl 0), fun b off hA => by cases hA⟩, by simp, by simp, by simp⟩
  · simp only [List.cons.injEq, and_true] at hcs
    have hlm : len ≤ m := by rw [hmm]; split <;> omega
    have hws : ∀ d ∈ ((List.range len).map D), ∀ n ∈ d.weights P e, n ≤ reachBytes := by
      intro d hd n hn
      exact hw n (by rw [hx]; simp only [DataW.weights, ht, List.mem_cons, List.mem_append]; exact .inr (.inl (weightsAll_mem hd hn)))
    have h1 := hw ((((List.range len).map D).length + ((List.range (m - len)).map fun j => D (len + j)).length) * P.bytesOf e) (by rw [hx]; simp [DataW.weights, ht])
    rw [hb1] at h1
    simp only [List.length_map, List.length_range, reachBytes] at h1
    have hrow : ∀ j, j < len → ∃ q : Option Addr × List Int × Nat, w.cell? (a.add j) = some (.slice q.1 q.2.1.length q.2.2) ∧ IntsAt w q.1 q.2.1.length q.2.1 ∧ q.2.1.length ≤ 140737488355328 ∧ ∀ n ∈ q.2.1, -9223372036854775808 ≤ n ∧ n ≤ 9223372036854775807 := by
      intro j hj
      obtain ⟨hcell, htr⟩ := hel j (by omega)
      obtain ⟨A, xs, c, hV, k1, k2, k3⟩ := open_ints_at he hi hc hb htr (hws (D j) (List.mem_map.2 ⟨j, List.mem_range.2 hj, rfl⟩))
      exact ⟨(A, xs, c), by rw [hcell, hV], k1, k2, k3⟩
    obtain ⟨f, hf⟩ := choose_lt hrow
    refine ⟨some a, (List.range len).map fun j => (f j).2.1, cap, by simpa using hcs, ⟨rfl, fun h0 => ?_, fun b off hA j hj => ?_⟩, by simp; omega, fun j => ?_, fun r hr => ?_⟩
    · simp only [List.length_map, List.length_range] at h0
      have h2 := (hf 0 h0).1
      obtain ⟨b, off, spot⟩ := a
      have hspot : spot = none := by simpa [Addr.add] using World.cell?_spot h2
      subst hspot
      exact ⟨b, off, rfl, cell_lt h2⟩
    · cases hA
      simp only [List.length_map, List.length_range] at hj
      obtain ⟨k0, k1, _, _⟩ := hf j hj
      have e1 : ((List.range len).map fun j => (f j).2.1)[j]?.getD [] = (f j).2.1 := by simp [hj]
      rw [e1]
      exact ⟨_, _, by rw [← Go.WideShapes.add_plain]; exact k0, k1⟩
    · by_cases hj : j < len
      · have e1 : ((List.range len).map fun j => (f j).2.1)[j]?.getD [] = (f j).2.1 := by simp [hj]
        rw [e1]; exact (hf j hj).2.2.1
      · have e1 : ((List.range len).map fun j => (f j).2.1)[j]? = none := by simp; omega
        rw [e1]; simp
    · obtain ⟨j, hj, rfl⟩ := List.mem_map.1 hr
      exact (hf j (List.mem_range.1 hj)).2.2.2
end

section
variable {H : Type} {enc : TypeId × Value → H} {w : World} {base : Nat} {spare : Nat → Bool} {held : Bool}
set_option maxRecDepth 100000 in
theorem open_parts {r : Reach} {b0 : Nat} {v : Value} {d : DataW H} {p : List MemPlace} (hv : Value.okWide Try.prog w r b0 39 v) (h : DataW.Trod enc Try.prog w base spare held 39 v d p) (hw : ∀ n ∈ d.weights Try.prog 39, n ≤ reachBytes) :
    ∃ (A : Option Addr) (ps : List PartV) (c : Nat), v = .slice A ps.length c ∧ PartsAt w A ps ∧ ps.length ≤ 140737488355328 ∧ ∀ q ∈ ps, (-9223372036854775808 ≤ q.al ∧ q.al ≤ 9223372036854775807) ∧ (-9223372036854775808 ≤ q.ah ∧ q.ah ≤ 9223372036854775807) ∧ (-9223372036854775808 ≤ q.sl ∧ q.sl ≤ 9223372036854775807) ∧ (-9223372036854775808 ≤ q.sh ∧ q.sh ≤ 9223372036854775807) := by
  obtain ⟨a0, l0, c0, rfl⟩ := okWide_slice Try.underlying39 hv
  obtain ⟨fuel, hf⟩ := h
  rcases open_slice Try.underlying39 hf with ⟨hcs, _⟩ | ⟨a, len, cap, m, n, D, Pl, hcs, _, hl, _, hmm, hx, hel⟩
  · simp [Value.cells] at hcs
    obtain ⟨rfl, rfl, rfl⟩ := hcs
    exact ⟨none, [], 0, rfl, fun h => absurd h (Nat.lt_irrefl 0), by simp, by simp⟩
  · simp [Value.cells] at hcs
    obtain ⟨rfl, rfl, rfl⟩ := hcs
    have hlm : l0 ≤ m := by rw [hmm]; split <;> omega
    have hd : d = .slice ((List.range l0).map D) ((List.range (m - l0)).map fun j => D (l0 + j)) := congrArg Prod.fst hx
    have h1 := hw ((((List.range l0).map D).length + ((List.range (m - l0)).map fun j => D (l0 + j)).length) * Try.prog.bytesOf 41) (by rw [hd]; simp [DataW.weights, Try.underlying39])
    rw [show Try.prog.bytesOf 41 = 32 by kernel_rfl] at h1
    simp only [List.length_map, List.length_range, reachBytes] at h1
    have hC : Try.prog.cellsOf 41 = 4 := by kernel_rfl
    have hS : Try.prog.cellsOf 27 = 2 := by kernel_rfl
    have hI : Try.prog.cellsOf 3 = 1 := by kernel_rfl
    have hrow : ∀ j, j < l0 → ∃ q : PartV, (w.cell? (a.add (j * 4)) = some (.int .i64 q.al) ∧ w.cell? (a.add (j * 4 + 1)) = some (.int .i64 q.ah) ∧ w.cell? (a.add (j * 4 + 2)) = some (.int .i64 q.sl) ∧ w.cell? (a.add (j * 4 + 3)) = some (.int .i64 q.sh)) ∧ (-9223372036854775808 ≤ q.al ∧ q.al ≤ 9223372036854775807) ∧ (-9223372036854775808 ≤ q.ah ∧ q.ah ≤ 9223372036854775807) ∧ (-9223372036854775808 ≤ q.sl ∧ q.sl ≤ 9223372036854775807) ∧ (-9223372036854775808 ≤ q.sh ∧ q.sh ≤ 9223372036854775807) := by
      intro j hj
      obtain ⟨cs', hc, htr⟩ := hel j (by omega)
      rw [hC] at hc
      obtain ⟨_, hlen, hat⟩ := World.cells?_some hc
      obtain ⟨y0, y1, n1, _, _, t0, t1⟩ := trod_struct2 Try.underlying41 htr
      obtain ⟨z0, z1, n2, _, _, u0, u1⟩ := trod_struct2 Try.underlying27 t0
      obtain ⟨z2, z3, n3, _, _, u2, u3⟩ := trod_struct2 Try.underlying27 t1
      match cs', hlen with
      | [k0, k1, k2, k3], _ =>
        simp [hS, hI] at u0 u1 u2 u3
        obtain ⟨i0, e0, _, g0⟩ := DataW.trod_int Try.underlying3 u0
        obtain ⟨i1, e1, _, g1⟩ := DataW.trod_int Try.underlying3 u1
        obtain ⟨i2, e2, _, g2⟩ := DataW.trod_int Try.underlying3 u2
        obtain ⟨i3, e3, _, g3⟩ := DataW.trod_int Try.underlying3 u3
        simp only [List.cons.injEq, and_true] at e0 e1 e2 e3
        subst e0 e1 e2 e3
        refine ⟨⟨i0, i1, i2, i3⟩, ⟨?_, ?_, ?_, ?_⟩, wf_i64 g0, wf_i64 g1, wf_i64 g2, wf_i64 g3⟩
        · simpa [hC, Go.Deep.add_add] using hat 0 (by omega)
        · simpa [hC, Go.Deep.add_add] using hat 1 (by omega)
        · simpa [hC, Go.Deep.add_add] using hat 2 (by omega)
        · simpa [hC, Go.Deep.add_add] using hat 3 (by omega)
    haveI : Inhabited PartV := ⟨⟨0, 0, 0, 0⟩⟩
    obtain ⟨f, hf⟩ := choose_lt hrow
    refine ⟨some a, (List.range l0).map f, c0, by simp, fun h0 => ?_, by simp; omega, fun r hr => ?_⟩
    · simp only [List.length_map, List.length_range] at h0
      have h2 := (hf 0 h0).1.1
      obtain ⟨b, off, spot⟩ := a
      have hspot : spot = none := by simpa [Addr.add] using World.cell?_spot h2
      subst hspot
      refine ⟨b, off, rfl, cell_lt h2, fun i p hp => ?_⟩
      have hi : i < l0 := by
        have := (List.getElem?_eq_some_iff.1 hp).1
        simpa using this
      have hp' : f i = p := by simpa [hi] using hp
      subst hp'
      obtain ⟨k0, k1, k2, k3⟩ := (hf i hi).1
      rw [Go.WideShapes.add_plain] at k0 k1 k2 k3
      exact ⟨k0, by simpa [Nat.add_assoc] using k1, by simpa [Nat.add_assoc] using k2, by simpa [Nat.add_assoc] using k3⟩
    · obtain ⟨j, hj, rfl⟩ := List.mem_map.1 hr
      exact (hf j (List.mem_range.1 hj)).2

set_option maxRecDepth 100000 in
theorem open_table {r : Reach} {b0 : Nat} {v : Value} {d : DataW H} {p : List MemPlace} (hv : Value.okWide Try.prog w r b0 25 v) (h : DataW.Trod enc Try.prog w base spare held 25 v d p) (hw : ∀ n ∈ d.weights Try.prog 25, n ≤ reachBytes) :
    ∃ (A0 A1 A2 A3 : Option Addr) (c0 c1 c2 c3 : Nat) (T S : List Int) (Sh Rm : List (List Int)), v = .agg #[.slice A0 T.length c0, .slice A1 S.length c1, .slice A2 Sh.length c2, .slice A3 Rm.length c3] ∧ TableAt w A0 A1 A2 A3 T S Sh Rm ∧
      (∀ n ∈ T, -9223372036854775808 ≤ n ∧ n ≤ 9223372036854775807) ∧ (∀ n ∈ S, -9223372036854775808 ≤ n ∧ n ≤ 9223372036854775807) ∧ (∀ r ∈ Sh, ∀ n ∈ r, -9223372036854775808 ≤ n ∧ n ≤ 9223372036854775807) ∧ (∀ r ∈ Rm, ∀ n ∈ r, -9223372036854775808 ≤ n ∧ n ≤ 9223372036854775807) := by
  obtain ⟨v0, v1, v2, v3, y0, y1, y2, y3, n, rfl, rfl, rfl, h0, h1, h2, h3⟩ := Go.Joins.open_agg4 Try.underlying25 (by kernel_rfl) (by kernel_rfl) hv h
  have hwj : ∀ (j : Nat) (t : TypeId) (y : DataW H), [22, 22, 23, 23][j]? = some t → [y0.1, y1.1, y2.1, y3.1][j]? = some y → ∀ n ∈ y.weights Try.prog t, n ≤ reachBytes := by
    intro j t y ht hy n hn
    refine hw n ?_
    simp only [DataW.weights, Try.underlying25]
    exact DataW.weights_mem_each (ts := [22, 22, 23, 23]) ht hy n hn
  obtain ⟨A0, T, c0, rfl, a1, a2, a3⟩ := open_ints_at Try.underlying22 Try.underlying3 (by kernel_rfl) (by kernel_rfl) h0 (hwj 0 _ _ rfl rfl)
  obtain ⟨A1, S, c1, rfl, b1, b2, b3⟩ := open_ints_at Try.underlying22 Try.underlying3 (by kernel_rfl) (by kernel_rfl) h1 (hwj 1 _ _ rfl rfl)
  obtain ⟨A2, Sh, c2, rfl, s1, s2, s3, s4⟩ := open_rows_at Try.underlying23 Try.underlying22 Try.underlying3 (by kernel_rfl) (by kernel_rfl) (by kernel_rfl) (by kernel_rfl) h2 (hwj 2 _ _ rfl rfl)
  obtain ⟨A3, Rm, c3, rfl, r1, r2, r3, r4⟩ := open_rows_at Try.underlying23 Try.underlying22 Try.underlying3 (by kernel_rfl) (by kernel_rfl) (by kernel_rfl) (by kernel_rfl) h3 (hwj 3 _ _ rfl rfl)
  exact ⟨A0, A1, A2, A3, c0, c1, c2, c3, T, S, Sh, Rm, rfl, ⟨a1, b1, s1, r1, a2, b2, s2, r2, s3, r3⟩, a3, b3, s4, r4⟩
end
end Go.Proofs.Ytcghafdemklnnaa
