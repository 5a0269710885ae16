/- Rows of spans and of vats that a call has made itself. -/
import Derived.Test.YtjcadgklamhohaaAll
import Derived.Laws.AppendOwn
import Derived.OwnWalk
import Derived.OwnWalkIn
namespace Go.Proofs.Ytjcadgklamhohaa
open Go.RowKit Go.Sort

theorem flat_get {α : Type} {f : α → List Value} {n : Nat} (hf : ∀ x, (f x).length = n) {l : List α} {i : Nat} {x : α} (hx : l[i]? = some x) (c : Nat) (hc : c < n) : (l.flatMap f)[i * n + c]? = (f x)[c]? := by
  induction l generalizing i with
  | nil => simp at hx
  | cons q l ih =>
    rw [List.flatMap_cons]
    cases i with
    | zero =>
      simp only [List.getElem?_cons_zero, Option.some.injEq] at hx
      subst hx
      rw [List.getElem?_append_left (by rw [hf]; omega)]
      simp
    | succ i =>
      rw [List.getElem?_cons_succ] at hx
      rw [List.getElem?_append_right (by rw [hf, Nat.add_mul]; omega), ← ih hx]
      congr 1
      rw [hf, Nat.add_mul]
      omega
/-- a row of the call's own, cell by cell -/
theorem owns_cells {α : Type} {f : α → List Value} {n : Nat} {t : TypeId} (hf : ∀ x, (f x).length = n) {w : World} {B : Nat} {v : Value} {l : List α} (h : w.ownsRow B t n v l.length (l.flatMap f)) :
    ∃ (A : Option Addr) (c : Nat), v = .slice A l.length c ∧ l.length ≤ c ∧ (0 < l.length → ∃ b, A = some ⟨b, 0, none⟩ ∧ B ≤ b ∧ b < w.heap.size ∧ ∀ i x, l[i]? = some x → ∀ c u, c < n → (f x)[c]? = some u → w.cell? ⟨b, 0 + i * n + c, none⟩ = some u) := by
  have h' := h
  rcases h.2 with ⟨rfl, h0⟩ | ⟨g, cap, cur, rfl, hb, hg, hn, hm, hs, ht⟩
  · exact ⟨none, 0, by rw [h0], by omega, fun h1 => by omega⟩
  · refine ⟨_, _, rfl, ?_, fun _ => ⟨g, rfl, hb, (Array.getElem?_eq_some_iff.1 hg).1, fun i x hx c u hc hu => ?_⟩⟩
    · omega
    · have := h'.cells (g := g) rfl (i * n + c) u ((flat_get hf hx c hc).trans hu)
      rw [Go.WideShapes.add_plain] at this
      simpa [Nat.add_assoc] using this
theorem owns_below {w w' : World} {B : Nat} {e : TypeId} {n m : Nat} {v : Value} {xs : List Value} (h : w.ownsRow B e n v m xs) (hb : Below w.heap.size w w') : w'.ownsRow B e n v m xs := by
  refine ⟨h.1, ?_⟩
  rcases h.2 with h0 | ⟨g, cap, cur, h1, h2, h3, h4⟩
  · exact .inl h0
  · exact .inr ⟨g, cap, cur, h1, h2, (hb.block g (Array.getElem?_eq_some_iff.1 h3).1).trans h3, h4⟩
theorem owns_far {w : World} {B : Nat} {e : TypeId} {n m : Nat} {v : Value} {xs : List Value} (h : w.ownsRow B e n v m xs) {g o o' : Nat} (hg : g < B) (a b : Value) : ((w.setCell ⟨g, o, none⟩ a).setCell ⟨g, o', none⟩ b).ownsRow B e n v m xs := by
  refine ⟨h.1, ?_⟩
  rcases h.2 with h0 | ⟨k, cap, cur, h1, h2, h3, h4⟩
  · exact .inl h0
  · exact .inr ⟨k, cap, cur, h1, h2, ((Below.heap_setCell _ ⟨g, o', none⟩ _ _ (by simp only; omega)).trans (Below.heap_setCell _ ⟨g, o, none⟩ _ _ (by simp only; omega))).trans h3, h4⟩
def spanCells (p : Int × Int) : List Value := [.int .i64 p.1, .int .i64 p.2]
/-- where a list that a call returns lies -/
def NewAt (n : Nat) (A : Option Addr) : Prop := ∀ a, A = some a → n ≤ a.block ∧ a.spot = none
theorem owns_spans {w : World} {B : Nat} {v : Value} {l : List (Int × Int)} (h : w.ownsRow B 23 2 v l.length (l.flatMap spanCells)) : ∃ (A : Option Addr) (c : Nat), v = .slice A l.length c ∧ l.length ≤ c ∧ SpansAt w A l ∧ (0 < l.length → ∃ b, A = some ⟨b, 0, none⟩ ∧ B ≤ b) := by
  obtain ⟨A, c, rfl, hc, hx⟩ := owns_cells (f := spanCells) (fun _ => rfl) h
  refine ⟨A, c, rfl, hc, fun h0 => ?_, fun h0 => ?_⟩
  · obtain ⟨b, rfl, hb, hlt, hcell⟩ := hx h0
    refine ⟨b, 0, rfl, hlt, fun i hi => ?_⟩
    have e : l[i]? = some (l[i]?.getD (0, 0)) := by rw [List.getElem?_eq_getElem hi]; rfl
    exact ⟨by simpa using hcell i _ e 0 _ (by omega) rfl, hcell i _ e 1 _ (by omega) rfl⟩
  · obtain ⟨b, rfl, hb, _⟩ := hx h0
    exact ⟨b, rfl, hb⟩
end Go.Proofs.Ytjcadgklamhohaa
