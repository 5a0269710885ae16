/- append of a slice that is read to a slice without room: a copy. -/
import Derived.Test.YtlcccomdijdkaaaSyE
import Derived.Maps.AppendAt
namespace Go.Proofs.Ytlcccomdijdkaaa
open Go.RowKit

variable {P : Program} {E : Env} {w : World}
theorem rows_len {f : Nat → List Value} {n : Nat} (hf : ∀ i, (f i).length = n) : ∀ len : Nat, ((List.range len).flatMap f).length = len * n
  | 0 => by simp
  | len + 1 => by
    rw [List.range_succ, List.flatMap_append, List.length_append, rows_len hf len]
    simp [hf, Nat.add_mul]
theorem rows_find {f : Nat → List Value} {n : Nat} (hf : ∀ i, (f i).length = n) : ∀ (len j : Nat) (v : Value), ((List.range len).flatMap f)[j]? = some v → ∃ i r, i < len ∧ j = i * n + r ∧ (f i)[r]? = some v
  | 0, j, v, h => by simp at h
  | len + 1, j, v, h => by
    rw [List.range_succ, List.flatMap_append] at h
    by_cases hj : j < ((List.range len).flatMap f).length
    · rw [List.getElem?_append_left hj] at h
      obtain ⟨i, r, h1, h2, h3⟩ := rows_find hf len j v h
      exact ⟨i, r, by omega, h2, h3⟩
    · rw [List.getElem?_append_right (by omega)] at h
      rw [rows_len hf] at h hj
      exact ⟨len, j - len * n, by omega, by omega, by simpa using h⟩
theorem rows_get {f : Nat → List Value} {n : Nat} (hf : ∀ i, (f i).length = n) : ∀ (len i : Nat), i < len → ∀ (j : Nat) (v : Value), (f i)[j]? = some v → ((List.range len).flatMap f)[i * n + j]? = some v
  | 0, i, h => by omega
  | len + 1, i, h => fun j v hv => by
    have hjn : j < n := by have := (List.getElem?_eq_some_iff.1 hv).1; rwa [hf] at this
    rw [List.range_succ, List.flatMap_append]
    by_cases hi : i < len
    · have hlt : i * n + j < ((List.range len).flatMap f).length := by
        rw [rows_len hf]
        have := Nat.mul_le_mul_right n (show i + 1 ≤ len by omega)
        rw [Nat.add_mul] at this
        omega
      rw [List.getElem?_append_left hlt]
      exact rows_get hf len i hi j v hv
    · have e : i = len := by omega
      subst e
      rw [List.getElem?_append_right (by rw [rows_len hf]; omega), rows_len hf]
      simpa using hv
/-- a slice of no length, wherever it lies, is all that is appended -/
theorem append_zero {t ty e : TypeId} {i : TypeInfo} (hu : P.underlying t = some (.slice e)) (hi : P.info? e = some i) (b : Addr) (A : Option Addr) (c : Nat) : (Builtin.append_ #[t, t] ty #[.slice (some b) 0 0, .slice A 0 c]).run P w = .ok (.slice (some b) 0 0) w := by
  cases A <;> simp [Builtin.append_, run_underlying hu, sizeOf, typeInfo, hi, Builtin.lenOf, Builtin.firstCells, loadCells, loadCellsFrom, storeCells]
theorem append_copy {t ty e : TypeId} {i : TypeInfo} {z : Value} (hu : P.underlying t = some (.slice e)) (hi : P.info? e = some i) (hz : i.zero = some z) (b : Addr) (q : Q) (r : RS) (hr : RdAt w q r) (hsz : i.size = q.n) (hq : ∀ j, (q.get j).length = q.n ∧ ∀ v ∈ q.get j, v.oneCell' = true) (h1 : q.len ≤ 4611686018427387904) (h2 : q.len * i.bytes ≤ 140737488355328) :
    ∃ v' w', (Builtin.append_ #[t, t] ty #[.slice (some b) 0 0, .slice r.A r.len r.cap]).run P w = .ok v' w' ∧ Below w.heap.size w w' ∧ v'.oneCell' = true ∧ HeldIn (fun k => w.heap.size ≤ k) w' (CopyOf q fun _ => v') := by
  obtain ⟨r1, r2, r3, r4⟩ := hr
  rw [r1]
  rcases Nat.eq_zero_or_pos q.len with h0 | h0
  · refine ⟨.slice (some b) 0 0, w, ?_, Below.refl _ _, rfl, fun _ => False, fun k hk => hk.elim, fun w' _ => ⟨some b, 0, by rw [h0], rfl, rfl, by omega, fun h => absurd h (by omega)⟩⟩
    rw [h0]
    exact append_zero hu hi b r.A r.cap
  · obtain ⟨bl, off, hA, hlt, hc⟩ := r4 h0
    obtain ⟨news, hn⟩ : ∃ news, news = (List.range q.len).flatMap q.get := ⟨_, rfl⟩
    have hf : ∀ j, (q.get j).length = q.n := fun j => (hq j).1
    have hl : news.length = q.len * i.size := by rw [hn, rows_len hf, hsz]
    have hnews : ∀ j u, news[j]? = some u → w.cell? ((⟨bl, off, none⟩ : Addr).add j) = some u := fun j u hj => by
      rw [hn] at hj
      obtain ⟨k, s, k1, k2, k3⟩ := rows_find hf q.len j u hj
      rw [add_plain', k2]
      exact hc k k1 s u k3
    have hrun := run_append_grow (P := P) w t ty e i z hu hi hz b 0 0 [] (by simp) (fun j v h => by simp at h) ⟨bl, off, none⟩ q.len r.cap news hl hnews (by omega) (by omega) (growslice_fits (by omega) (by rw [Nat.zero_add]; exact h2))
    rw [← hA] at hrun
    have hge := grownCap_ge w (0 + q.len) 0 e
    refine ⟨_, _, hrun, (Below.refl _ _).drew.alloc (Nat.le_refl _) _, rfl, fun k => k = w.heap.size, fun k hk => by subst hk; exact ⟨by simp, Nat.le_refl _⟩, fun w' hw => ?_⟩
    refine ⟨some ⟨w.heap.size, 0, none⟩, grownCap w (0 + q.len) 0 e, by rw [Nat.zero_add], rfl, rfl, by dsimp only; omega, fun _ => ⟨w.heap.size, 0, rfl, ?_, fun k hk j v hv => ?_⟩⟩
    · have hb : w'.heap[w.heap.size]? = _ := (hw _ rfl).trans (heap_alloc_new w.drew _)
      exact (Array.getElem?_eq_some_iff.1 hb).1
    · have hb : w'.heap[w.heap.size]? = _ := (hw _ rfl).trans (heap_alloc_new w.drew _)
      have hB : Blk w' w.heap.size e _ := hb
      rw [hB.cell, Nat.zero_add]
      have h3 := rows_get hf q.len k hk j v hv
      rw [← hn] at h3
      have hlt2 := (List.getElem?_eq_some_iff.1 h3).1
      rw [Array.getElem?_append_left (by simpa using hlt2)]
      simpa using h3
end Go.Proofs.Ytlcccomdijdkaaa
