/- The evaluator is right, operation by operation. -/
import Derived.Test.YtlcccomdijdkaaaSyC
namespace Go.Proofs.Ytlcccomdijdkaaa
open Go.RowKit

variable {P : Program} {E : Env} {w : World}

/-- what an operation does, in the world's terms -/
def DoesOut (P : Program) (E : Env) (g : Nat) (w : World) (r : Result Next) : Out → Prop
  | .val sv => r = .ok (.value (sv.val E)) w
  | .new t cs sv => ∃ v, r = .ok (.value v) (w.alloc (.cells (SV.vals E cs).toArray t)) ∧ ∀ E' : Env, E'.ρ g = w.heap.size → sv.val E' = v
  | .sto g off _ cs xs => r = .ok .skip (w.setRow (E.ρ g) ((SV.vals E cs).take off ++ SV.vals E xs ++ (SV.vals E cs).drop (off + xs.length)).toArray)
  | .ext res Φ => ∃ v w', r = .ok (.value (res.val (E.updX g v))) w' ∧ Below w.heap.size w w' ∧ (∀ i, (v i).oneCell' = true) ∧ HeldIn (fun k => w.heap.size ≤ k) w' (Φ v)
  | .callx f args _ _ => EntersOK P f → r = .ok (.enter f (SV.vals E args).toArray) w
  | .call f args _ => EntersOK P f → r = .ok (.enter f (SV.vals E args).toArray) w

/-- what is known of the memory that an operation looks at -/
structure Known (E : Env) (w : World) (m : MState) (T : List Nat) : Prop where
  blk : ∀ g ∈ T, ∀ t cs, look m.blks g = some (.blk t cs) → Blk w (E.ρ g) t (SV.vals E cs).toArray
  rd : ∀ s q, look m.rds s = some q → RdAt w q (E.sl s)
  gr : ∀ k q, look m.grs k = some q → ∃ B, GrAt w B q (E.gr k)
  one : ∀ g i, (E.x g i).oneCell' = true

theorem gr_slice {B : Nat} {q : GQ} {v : Value} (h : GrAt w B q v) : ∃ A cap, v = .slice A q.len cap := by
  rcases h.2 with ⟨h1, h2⟩ | ⟨g, cap, cur, h1, _⟩
  · exact ⟨none, 0, by rw [h1, h2]⟩
  · exact ⟨_, cap, h1⟩
theorem one_of (xs : List SV) : (SV.vals E xs).toArray = (xs.map (SV.val E)).toArray := by rw [SV.vals_map]

theorem run_load_cells {t : TypeId} {d : TyD} {lay : Lay} (hl : LayOK P lay) (hd : look lay t = some d) {b ao off : Nat} {cs : List SV} {v : SV}
    (hc : ∀ j x, ((cs.drop off).take d.n)[j]? = some x → w.cell? ⟨b, ao + j, none⟩ = some (x.val E)) (hn : off + d.n ≤ cs.length) (h1 : isAggT d.k = true ∨ d.n = 1) (h : partSV cs off d.n (isAggT d.k) = some v) :
    (Instr.loadAt t (.pointer (some ⟨b, ao, none⟩))).run P w = .ok (v.val E) w := by
  have ht := hl t d hd
  have hlen : ((cs.drop off).take d.n).length = d.n := by simp; omega
  unfold Instr.loadAt loadVar
  simp only [Instr.sureAddr, Sem.run_bind, Sem.run_pure, Result.andThen_ok, ht.run_agg]
  cases ha : isAggT d.k with
  | true =>
    rw [ha] at h
    simp only [partSV, Option.some.injEq] at h
    subst h
    have := run_loadCells_list (P := P) w ⟨b, ao, none⟩ (SV.vals E ((cs.drop off).take d.n)) (fun j x hx => by
      rw [vals_get] at hx
      cases hx' : ((cs.drop off).take d.n)[j]? with
      | none => rw [hx'] at hx; simp at hx
      | some y => rw [hx'] at hx; simp at hx; rw [add_plain', hc j y hx', hx])
    rw [vals_length, hlen] at this
    simp only [if_true, Sem.run_bind, ht.run_size, Result.andThen_ok, this, Sem.run_pure, SV.val]
  | false =>
    rw [ha] at h
    simp only [partSV] at h
    have hn1 : d.n = 1 := by rcases h1 with h1 | h1; (rw [ha] at h1; cases h1); exact h1
    have h0 := hc 0 v (by rw [hn1]; simp [h])
    simp only [Bool.false_eq_true, if_false]
    rw [run_load]
    simp only [Nat.add_zero] at h0
    rw [h0]


theorem set_row (off : Nat) : ∀ (vs : List Value) (k : Nat) (cs : List Value), off + k + vs.length ≤ cs.length →
    (vs.zipIdx k).foldl (fun (a : Array Value) (x : Value × Nat) => a.setIfInBounds (off + x.2) x.1) cs.toArray = (cs.take (off + k) ++ vs ++ cs.drop (off + k + vs.length)).toArray
  | [], k, cs, _ => by simp
  | v :: vs, k, cs, h => by
    simp only [List.length_cons] at h
    simp only [List.zipIdx_cons, List.foldl_cons]
    have e : (cs.toArray).setIfInBounds (off + k) v = (cs.set (off + k) v).toArray := by simp
    rw [e, set_row off vs (k + 1) (cs.set (off + k) v) (by simp; omega)]
    congr 1
    have h1 : (cs.set (off + k) v).take (off + (k + 1)) = cs.take (off + k) ++ [v] := by
      rw [show off + (k + 1) = off + k + 1 by omega, List.take_add_one]
      rw [List.take_set_of_le (by omega)]
      rw [List.getElem?_set_self (by omega)]
      rfl
    have h2 : (cs.set (off + k) v).drop (off + (k + 1) + vs.length) = cs.drop (off + k + (v :: vs).length) := by
      rw [List.drop_set_of_lt (by omega)]
      congr 1
      simp; omega
    rw [h1, h2]
    simp

theorem fill_ok {m : MState} {fs : List (Nat × Nat × Bool)} (hg : Nice E m) {place : Nat → Option (Nat × Nat)} (hp : ∀ i o n b, fs[i]? = some (o, n, b) → place i = some (o, n)) :
    ∀ (ps : List (Nat × SV)) (cells cs : List SV), fillSV m fs cells ps = some cs → Instr.fill place (SV.vals E cells).toArray (ps.map fun (i, v) => (i, v.val E)) = some (SV.vals E cs).toArray
  | [], cells, cs, h => by simp [fillSV] at h; subst h; simp [Instr.fill]
  | (i, v) :: rest, cells, cs, h => by
    simp only [fillSV] at h
    cases hf : fs[i]? with
    | none => rw [hf] at h; simp at h
    | some x =>
      obtain ⟨off, size, ag⟩ := x
      cases hc : cellsSV m v with
      | none => rw [hf, hc] at h; simp at h
      | some vs =>
        rw [hf, hc] at h
        simp only at h
        split at h
        · rename_i hb
          simp only [Bool.and_eq_true, Nat.beq_eq, Nat.ble_eq] at hb
          obtain ⟨h1, h2⟩ := hb
          obtain ⟨e1, _⟩ := cellsSV_ok hg hc
          have ih := fill_ok hg hp rest _ _ h
          simp only [List.map_cons, Instr.fill, hp i _ _ _ hf, e1]
          rw [if_neg (by simp [vals_length, h1]; omega)]
          rw [← ih]
          congr 1
          rw [← Array.foldl_toList, Array.toList_zipIdx]
          have := set_row off (SV.vals E vs) 0 (SV.vals E cells) (by simp [vals_length]; omega)
          simp only [Nat.add_zero] at this
          rw [this]
          simp [vals_append, vals_take, vals_drop, vals_length, h1]
        · cases h

theorem concat_len {m : MState} : ∀ (qs : List (Nat × SV)) (j n : Nat) (cs : List SV), concatSV m n qs j = some cs → cs.length = qs.length * n
  | [], j, n, cs, h => by simp [concatSV] at h; subst h; simp
  | (i, v) :: r, j, n, cs, h => by
    simp only [concatSV] at h
    split at h
    · rename_i vs rr h1 h2 h3
      split at h
      · rename_i h4
        simp only [Option.some.injEq] at h
        subst h
        have := concat_len r (j + 1) n rr h3
        have h4 := Nat.eq_of_beq_eq_true h4
        simp [this, h4, Nat.add_mul]
        omega
      · cases h
    · cases h
theorem concat_fill {m : MState} (hg : Nice E m) : ∀ (qs : List (Nat × SV)) (j : Nat) (cs : List SV) (n : Nat) (cells : Array Value), concatSV m n qs j = some cs → (j + qs.length) * n ≤ cells.size →
    Instr.fill (fun i => some (i * n, n)) cells (qs.map fun (i, v) => (i, v.val E)) = some (cells.toList.take (j * n) ++ SV.vals E cs ++ cells.toList.drop ((j + qs.length) * n)).toArray
  | [], j, cs, n, cells, h, _ => by
    simp [concatSV] at h
    subst h
    simp [Instr.fill, SV.vals]
  | (i, v) :: r, j, cs, n, cells, h, hsz => by
    simp only [concatSV] at h
    split at h
    · rename_i vs rr h1 h2 h3
      split at h
      · rename_i h4
        simp only [Option.some.injEq] at h
        subst h
        have h1 := Nat.eq_of_beq_eq_true h1
        subst h1
        have h4 := Nat.eq_of_beq_eq_true h4
        obtain ⟨e1, _⟩ := cellsSV_ok hg h2
        simp only [List.length_cons] at hsz
        have hmul : (i + (r.length + 1)) * n = i * n + n + r.length * n := by rw [Nat.add_mul, Nat.add_mul]; omega
        simp only [List.map_cons, Instr.fill, e1]
        rw [if_neg (by simp [vals_length, h4]; omega)]
        rw [← Array.foldl_toList, Array.toList_zipIdx]
        have hset := set_row (i * n) (SV.vals E vs) 0 cells.toList (by simp [vals_length, h4]; omega)
        simp only [Nat.add_zero, Array.toArray_toList] at hset
        rw [hset]
        rw [concat_fill hg r (i + 1) rr n _ h3 (by simp [vals_length, h4, Nat.add_mul]; omega)]
        congr 2
        have hi : (i + 1) * n = i * n + n := by rw [Nat.add_mul]; omega
        have hlen : (cells.toList.take (i * n) ++ SV.vals E vs).length = i * n + n := by simp [vals_length, h4]; omega
        simp only [List.length_cons]
        rw [hi, show (i + 1 + r.length) * n = i * n + n + r.length * n from by rw [Nat.add_mul, Nat.add_mul]; omega, hmul]
        rw [List.take_append_of_le_length (by rw [hlen]; exact Nat.le_refl _), List.take_of_length_le (by rw [hlen]; exact Nat.le_refl _)]
        rw [List.drop_append, List.drop_of_length_le (by rw [hlen]; omega), hlen, vals_append, vals_length, h4]
        rw [List.drop_drop]
        simp only [List.nil_append, List.append_assoc]
        congr 3
        congr 1
        omega
      · cases h
    · cases h

theorem run_mapM_places (fs : Array Field) (h : ∀ x ∈ fs.toList, knownB P x.type = true) :
    (fs.mapM fun f => (do pure (f.offset, ← sizeOf f.type) : Sem (Nat × Nat))).run P w = .ok (fs.map fun f => (f.offset, P.cellsOf f.type)) w := by
  have : ∀ (l : List Field), (∀ x ∈ l, knownB P x.type = true) → (l.mapM fun f => (do pure (f.offset, ← sizeOf f.type) : Sem (Nat × Nat))).run P w = .ok (l.map fun f => (f.offset, P.cellsOf f.type)) w := by
    intro l
    induction l with
    | nil => intro _; simp [List.mapM_nil, Sem.run_pure]
    | cons x l ih =>
      intro hl
      rw [List.mapM_cons]
      simp only [Sem.run_bind, (hl x (by simp) |> fun h => knownB.run_size h w), Result.andThen_ok, Sem.run_pure, ih (fun y hy => hl y (by simp [hy])), List.map_cons]
  rw [Array.mapM_eq_mapM_toList]
  have h1 := this fs.toList h
  show ((do pure (List.toArray (← fs.toList.mapM _))) : Sem (Array (Nat × Nat))).run P w = _
  simp only [Sem.run_bind, h1, Result.andThen_ok, Sem.run_pure]
  congr 1
  apply Array.ext'
  simp
end Go.Proofs.Ytlcccomdijdkaaa
