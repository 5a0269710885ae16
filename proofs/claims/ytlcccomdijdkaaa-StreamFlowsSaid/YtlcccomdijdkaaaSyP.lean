/- What grew is handed back; literal rows handed over; blocks caught that were not turned. -/
import Derived.Test.YtlcccomdijdkaaaSyO
namespace Go.Proofs.Ytlcccomdijdkaaa
open Go.RowKit

variable {P : Program} {X : Ctx} {E : Env} {a : Act} {w : World} {st : SState}

def allLt : Nat → (Nat → Prop) → Prop
  | 0, _ => True
  | n + 1, p => allLt n p ∧ p n
theorem allLt.get {p : Nat → Prop} : ∀ {n : Nat}, allLt n p → ∀ i, i < n → p i
  | 0, _, i, h => absurd h (by omega)
  | n + 1, h, i, hi => by
    by_cases e : i = n
    · subst e; exact h.2
    · exact allLt.get h.1 i (by omega)
/-- a slice in a block -/
theorem SlAt.of_blk {t : TypeId} {b off len n : Nat} {vs : List Value} {get : Nat → List Value} (h : Blk w b t vs.toArray) (hg : ∀ i, i < len → ∀ j v, (get i)[j]? = some v → vs[off + (i * n + j)]? = some v) : SlAt w (some ⟨b, off, none⟩) len n get := fun _ =>
  ⟨b, off, rfl, h.lt, fun i hi j v hv => by rw [h.cell]; simpa using hg i hi j v hv⟩
/-- a literal row, handed over -/
theorem Mem.row {B : Nat} {R : Nat → Prop} {m : MState} (h : Mem B R m E w) {g : Nat} {t : TypeId} {cs : List SV} (hg : look m.blks g = some (.blk t cs)) (len n : Nat) (get : Nat → List Value) (hl : allLt len fun i => get i = ((SV.vals E cs).drop (i * n)).take n) :
    SlAt w (some ⟨E.ρ g, 0, none⟩) len n get := SlAt.of_blk (h.blk g t cs hg) fun i hi j v hv => by
  rw [allLt.get hl i hi, List.getElem?_take] at hv
  split at hv
  · rw [List.getElem?_drop] at hv
    rw [Nat.zero_add]
    exact hv
  · cases hv
/-- what grew, as a slice that is returned -/
theorem GrAt.slice {B : Nat} {q : GQ} {v : Value} (h : GrAt w 0 q v) (hB : ∀ b, v.ownBlock = some b → B ≤ b) (i : Nat) (u : Nat → Value) (hu : u i = v) (get : Nat → List Value) (hg : ∀ i, i < q.len → ∀ j x, (get i)[j]? = some x → q.xs[i * q.n + j]? = some x) : HeldIn (fun k => B ≤ k) w (SliceIs i ⟨q.len, q.n, get⟩ u) := by
  rcases h.2 with ⟨h1, h2⟩ | ⟨b, cap, cur, e, _, hb, hcap, _, hsz, hx⟩
  · refine ⟨fun _ => False, fun k hk => hk.elim, fun w' _ => ⟨none, 0, by rw [hu, h1, h2], by simp [h2], fun hl => ?_⟩⟩
    simp only [h2] at hl
    exact absurd hl (by omega)
  · refine ⟨fun k => k = b, fun k hk => by subst hk; exact ⟨(Array.getElem?_eq_some_iff.1 hb).1, hB _ (by rw [e]; rfl)⟩, fun w' hw => ⟨_, cap, hu.trans e, hcap, fun hl => ?_⟩⟩
    have hb' : Blk w' b q.ty cur := (hw b rfl).trans hb
    refine ⟨b, 0, rfl, hb'.lt, fun i hi j x hx' => ?_⟩
    rw [hb'.cell, Nat.zero_add]
    have h3 := hg i hi j x hx'
    rw [← hx, List.getElem?_take] at h3
    split at h3
    · simpa using h3
    · cases h3
theorem HeldIn.and {R : Nat → Prop} {Φ Ψ : World → Prop} (h : HeldIn R w Φ) (k : HeldIn R w Ψ) : HeldIn R w fun w => Φ w ∧ Ψ w := by
  obtain ⟨D, h1, h2⟩ := h
  obtain ⟨D', k1, k2⟩ := k
  exact ⟨fun b => D b ∨ D' b, fun b hb => hb.elim (h1 b) (k1 b), fun w' hw => ⟨h2 w' fun b hb => hw b (.inl hb), k2 w' fun b hb => hw b (.inr hb)⟩⟩
theorem HeldIn.imp {R : Nat → Prop} {Φ Ψ : World → Prop} (h : HeldIn R w Φ) (hi : ∀ w, Φ w → Ψ w) : HeldIn R w Ψ := by
  obtain ⟨D, h1, h2⟩ := h
  exact ⟨D, h1, fun w' hw => hi w' (h2 w' hw)⟩
theorem HeldIn.true {R : Nat → Prop} {Φ : World → Prop} (h : ∀ w, Φ w) : HeldIn R w Φ := ⟨fun _ => False, fun _ h => h.elim, fun w' _ => h w'⟩
theorem HeldIn.blk {R : Nat → Prop} {b : Nat} {t : TypeId} {cs : Array Value} (h : Blk w b t cs) (hR : R b) : HeldIn R w fun w => Blk w b t cs :=
  ⟨fun k => k = b, fun k hk => by subst hk; exact ⟨h.lt, hR⟩, fun w' hw => (hw b rfl).trans h⟩
theorem HeldIn.sl {R : Nat → Prop} {A : Option Addr} {len n : Nat} {get : Nat → List Value} (h : SlAt w A len n get) (hR : InR R A len) : HeldIn R w fun w => SlAt w A len n get := by
  by_cases h0 : 0 < len
  · obtain ⟨b, off, hA, hlt, hc⟩ := h h0
    exact ⟨fun k => k = b, fun k hk => by subst hk; exact ⟨hlt, hR k off h0 hA⟩, fun w' hw _ => ⟨b, off, hA, (by
      have := hw b rfl
      by_cases hb : b < w'.heap.size
      · exact hb
      · rw [Array.getElem?_eq_none (by omega)] at this
        simp [hlt] at this), fun i hi j v hv => (World.cell?_of_block (hw b rfl)).trans (hc i hi j v hv)⟩⟩
  · exact .true fun w h => absurd h h0
/-- the call's own state, as what is held when it has ended -/
theorem St.own_blk (S : St X st E a w) {g : Nat} {t : TypeId} {cs : List SV} (hg : look st.m.blks g = some (.blk t cs)) (hC : X.C = noC) : HeldIn (fun k => X.w0.heap.size ≤ k) w fun w => Blk w (E.ρ g) t (SV.vals E cs).toArray :=
  HeldIn.blk (S.mem.blk g t cs hg) (by
    rcases S.sep.base g t cs hg with h | h
    · exact h
    · rw [hC] at h; exact h.elim)
theorem St.letters (S : St X st E a w) {g : Nat} {Φ : (Nat → Value) → World → Prop} (hg : look st.m.blks g = some (.held Φ)) : HeldIn (fun k => X.w0.heap.size ≤ k ∨ X.R k) w (Φ (E.x g)) := (S.sep.held g Φ hg).mono fun _ _ h => h.2
/-- the blocks that it has caught are as they were -/
theorem St.below_c (S : St X st E a w) (hold : ∀ k, X.C k → ∃ g t cs, look st.m.blks g = some (.blk t cs) ∧ E.ρ g = k ∧ Blk X.w0 k t (SV.vals E cs).toArray) : Below X.w0.heap.size X.w0 w :=
  ⟨S.kept.os, S.kept.tape, S.kept.output, S.kept.size, fun k hk => by
    by_cases hC : X.C k
    · obtain ⟨g, t, cs, hg, rfl, hB⟩ := hold k hC
      exact (S.mem.blk g t cs hg).trans hB.symm
    · exact S.kept.block k hk hC⟩
/-- letters, listed -/
def vfun (l : List Value) (i : Nat) : Value := l.getD i (.bool false)
def AllV : List Value → Prop
  | [] => True
  | v :: r => v.oneCell' = true ∧ AllV r
theorem vfun_one : ∀ (l : List Value), AllV l → ∀ i, (vfun l i).oneCell' = true
  | [], _, i => by simp [vfun, Value.oneCell']
  | v :: r, h, 0 => h.1
  | v :: r, h, i + 1 => vfun_one r h.2 i
theorem lit_get {len n : Nat} {vs : List Value} {get : Nat → List Value} (hl : allLt len fun i => get i = (vs.drop (i * n)).take n) : ∀ i, i < len → ∀ j v, (get i)[j]? = some v → vs[0 + (i * n + j)]? = some v := fun i hi j v hv => by
  rw [allLt.get hl i hi, List.getElem?_take] at hv
  split at hv
  · rw [List.getElem?_drop] at hv
    rw [Nat.zero_add]
    exact hv
  · cases hv
theorem St.gr_new (S : St X st E a w) (hC : X.C = noC) {k : Nat} {q : GQ} (hq : look st.m.grs k = some q) : ∀ b, (E.gr k).ownBlock = some b → X.w0.heap.size ≤ b := fun b hb => by
  rcases S.sep.ginj.2 k q b hq hb with h | h
  · exact h
  · rw [hC] at h; exact h.elim
theorem St.gr_one (S : St X st E a w) {k : Nat} {q : GQ} (hq : look st.m.grs k = some q) : (E.gr k).oneCell' = true := by
  obtain ⟨A, c, e⟩ := gr_slice (S.mem.gr k q hq)
  rw [e]; rfl
/-- the cells of a list, one after the other -/
theorem flat_get {α : Type} [Inhabited α] (f : α → List Value) (n : Nat) (hf : ∀ x, (f x).length = n) : ∀ (l : List α) (i : Nat), i < l.length → ∀ j v, (f (l.getD i default))[j]? = some v → (l.flatMap f)[i * n + j]? = some v
  | [], i, h, _, _, _ => absurd h (by simp)
  | x :: r, 0, _, j, v, hv => by
    have hj : j < (f x).length := (List.getElem?_eq_some_iff.1 (show (f x)[j]? = some v from hv)).1
    rw [List.flatMap_cons, List.getElem?_append_left (by omega)]
    simpa using hv
  | x :: r, i + 1, h, j, v, hv => by
    rw [List.flatMap_cons, List.getElem?_append_right (by rw [hf x, Nat.add_mul]; omega), hf x, show (i + 1) * n + j - n = i * n + j by rw [Nat.add_mul]; omega]
    exact flat_get f n hf r i (by simpa using h) j v (by simpa using hv)
theorem flat_len {α : Type} (f : α → List Value) (n : Nat) (hf : ∀ x, (f x).length = n) (l : List α) : (l.flatMap f).length = l.length * n := by
  induction l with
  | nil => simp
  | cons x r ih => rw [List.flatMap_cons, List.length_append, hf x, ih, List.length_cons, Nat.add_mul]; omega
end Go.Proofs.Ytlcccomdijdkaaa
