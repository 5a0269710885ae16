/- Symbolic states: values in which the blocks of the call's own have numbers, and what is known of the world under a reading of these numbers. -/
import Derived.WalkKit
import Derived.LoopN
import Derived.KernelRfl
namespace Go.Proofs.Ytlcccomdijdkaaa
open Go.RowKit

/-- only blocks of C, and new ones, have turned -/
structure Kept (C : Nat → Prop) (a b : World) : Prop where
  os : b.os = a.os
  tape : b.tape = a.tape
  output : b.output = a.output
  size : a.heap.size ≤ b.heap.size
  block : ∀ k, k < a.heap.size → ¬ C k → b.heap[k]? = a.heap[k]?
theorem Kept.refl (C : Nat → Prop) (a : World) : Kept C a a := ⟨rfl, rfl, rfl, Nat.le_refl _, fun _ _ _ => rfl⟩
theorem Kept.trans {C : Nat → Prop} {a b c : World} (h : Kept C a b) (k : Kept C b c) : Kept C a c :=
  ⟨k.os.trans h.os, k.tape.trans h.tape, k.output.trans h.output, Nat.le_trans h.size k.size, fun i hi hc => (k.block i (Nat.lt_of_lt_of_le hi h.size) hc).trans (h.block i hi hc)⟩
theorem Kept.mono {C C' : Nat → Prop} {a b : World} (h : Kept C a b) (hc : ∀ k, k < a.heap.size → C k → C' k) : Kept C' a b := ⟨h.os, h.tape, h.output, h.size, fun k hk hn => h.block k hk (fun e => hn (hc k hk e))⟩
theorem Kept.of_below {C : Nat → Prop} {a b : World} (h : Below a.heap.size a b) : Kept C a b := ⟨h.os, h.tape, h.output, h.size, fun k hk _ => h.block k hk⟩
theorem Kept.below {C : Nat → Prop} {a b : World} (h : Kept C a b) {B : Nat} (hB : B ≤ a.heap.size) (hC : ∀ k, k < B → ¬ C k) : Below B a b :=
  ⟨h.os, h.tape, h.output, h.size, fun k hk => h.block k (by omega) (hC k hk)⟩
theorem Kept.drew {C : Nat → Prop} {a b : World} (h : Kept C a b) : Kept C a b.drew := ⟨h.os, h.tape, h.output, h.size, h.block⟩
theorem Kept.alloc {C : Nat → Prop} {a b : World} (h : Kept C a b) (o : Obj) : Kept C a (b.alloc o) := h.trans (Kept.of_below ((Below.refl _ _).alloc (Nat.le_refl _) o))
theorem Kept.setCell {C : Nat → Prop} {a b : World} (h : Kept C a b) {p : Addr} (hp : C p.block) (u : Value) : Kept C a (b.setCell p u) :=
  h.trans ⟨rfl, rfl, rfl, by simp [World.setCell], fun k _ hn => Below.heap_setCell _ _ _ _ (fun e => hn (by rw [e]; exact hp))⟩

/-- block g is just these cells, none frozen -/
def Blk (w : World) (g : Nat) (t : TypeId) (cs : Array Value) : Prop := w.heap[g]? = some (.cells cs t (0, 0))
section
variable {w w' : World} {g : Nat} {t : TypeId} {cs : Array Value}
theorem Blk.lt (h : Blk w g t cs) : g < w.heap.size := (Array.getElem?_eq_some_iff.1 h).1
theorem Blk.cell (h : Blk w g t cs) (i : Nat) : w.cell? ⟨g, i, none⟩ = cs[i]? := cell_of_row w g i cs t (0, 0) h
theorem Blk.frozen (h : Blk w g t cs) (i : Nat) : w.frozen? ⟨g, i, none⟩ = false := by
  unfold Blk at h
  simp [World.frozen?, h]
theorem Blk.new (w : World) (t : TypeId) (cs : Array Value) : Blk (w.alloc (.cells cs t)) w.heap.size t cs := heap_alloc_new w _
theorem Blk.drew (h : Blk w g t cs) : Blk w.drew g t cs := h
theorem Blk.set_ (h : Blk w g t cs) (i : Nat) (u : Value) : Blk (w.setCell ⟨g, i, none⟩ u) g t (cs.setIfInBounds i u) := by
  unfold Blk at h ⊢
  simp [World.setCell, Array.getElem?_modify, h]
theorem Blk.kept {C : Nat → Prop} (h : Blk w g t cs) (hk : Kept C w w') (hc : ¬ C g) : Blk w' g t cs := (hk.block g h.lt hc).trans h
end

/-- a slice that is read: where it is, how long, how many cells an element has, and what they hold -/
structure RS where
  A : Option Addr
  len : Nat
  cap : Nat
  n : Nat
structure Q where
  len : Nat
  n : Nat
  get : Nat → List Value
/-- a slice that grows: the type of its elements, their cells, how many, what they hold -/
structure GQ where
  ty : TypeId
  n : Nat
  len : Nat
  xs : List Value
structure Env where
  ρ : Nat → Nat
  sl : Nat → RS
  gr : Nat → Value
  /-- what calls have returned that hangs on the world that they came in -/
  x : Nat → Nat → Value

inductive SV where
  | v (x : Value)
  | own (g off : Nat)
  | sl (s : Nat)
  | at (s : Nat) (i : Int) (off : Nat)
  | gr (k : Nat)
  | ltr (g i : Nat)
  | row (g off len cap : Nat)
  /-- a part of the slice s -/
  | sub (s a b : Nat)
  | agg (xs : List SV)
  | tup (xs : List SV)
  | fn (f : Nat) (cap : List SV)
  /-- under a guard: slot d has to be want; whether it is; the value then -/
  | gd (d : Nat) (want W : Bool) (x : SV)
  deriving Inhabited
/-- a part of a slice, as a value -/
def subV (r : RS) (a b : Nat) : Value := .slice (if r.cap = a then r.A else r.A.map (·.add (a * r.n))) (b - a) (r.cap - a)
mutual
def SV.val (E : Env) : SV → Value
  | .v x => x
  | .own g off => .pointer (some ⟨E.ρ g, off, none⟩)
  | .sl s => .slice (E.sl s).A (E.sl s).len (E.sl s).cap
  | .at s i off => .pointer ((E.sl s).A.map fun a => ⟨a.block, a.off + (i.toNat * (E.sl s).n + off), none⟩)
  | .gr k => E.gr k
  | .ltr g i => E.x g i
  | .row g off len cap => .slice (some ⟨E.ρ g, off, none⟩) len cap
  | .sub s a b => subV (E.sl s) a b
  | .agg xs => .agg (SV.vals E xs).toArray
  | .tup xs => .tuple (SV.vals E xs).toArray
  | .fn f cap => .func (.func f) #[] (SV.vals E cap).toArray
  | .gd _ _ W x => bif W then x.val E else undef
def SV.vals (E : Env) : List SV → List Value
  | [] => []
  | x :: xs => x.val E :: SV.vals E xs
end
theorem SV.vals_map (E : Env) (xs : List SV) : SV.vals E xs = xs.map (SV.val E) := by
  induction xs with
  | nil => simp [SV.vals]
  | cons x xs ih => simp [SV.vals, ih]

def look {β : Type} : List (Nat × β) → Nat → Option β
  | [], _ => none
  | (k, x) :: r, t => bif Nat.beq k t then some x else look r t
theorem look_same {β : Type} (k : Nat) (x : β) (r : List (Nat × β)) : look ((k, x) :: r) k = some x := by simp [look]
theorem look_ne {β : Type} {k t : Nat} (h : k ≠ t) (x : β) (r : List (Nat × β)) : look ((k, x) :: r) t = look r t := by
  have : Nat.beq k t = false := by
    cases e : Nat.beq k t with
    | false => rfl
    | true => exact absurd (Nat.eq_of_beq_eq_true e) h
  simp [look, this]
theorem look_cases {β : Type} {k t : Nat} {x y : β} {r : List (Nat × β)} (h : look ((k, x) :: r) t = some y) : (k = t ∧ x = y) ∨ (k ≠ t ∧ look r t = some y) := by
  by_cases e : k = t
  · subst e; rw [look_same] at h; exact .inl ⟨rfl, by simpa using h⟩
  · rw [look_ne e] at h; exact .inr ⟨e, h⟩

/-- a block of the call's own; or letters that a call returned, and what is known of them -/
inductive BE where
  | blk (t : TypeId) (cs : List SV)
  | held (Φ : (Nat → Value) → World → Prop)
structure MState where
  blks : List (Nat × BE)
  rds : List (Nat × Q)
  grs : List (Nat × GQ)

def RdAt (w : World) (q : Q) (r : RS) : Prop :=
  r.len = q.len ∧ r.n = q.n ∧ q.len ≤ r.cap ∧ (0 < q.len → ∃ b off, r.A = some ⟨b, off, none⟩ ∧ b < w.heap.size ∧ ∀ i, i < q.len → ∀ j v, (q.get i)[j]? = some v → w.cell? ⟨b, off + (i * q.n + j), none⟩ = some v)
def GrAt (w : World) (B : Nat) (q : GQ) (v : Value) : Prop := w.ownsRow B q.ty q.n v q.len q.xs

abbrev BF := Nat → Option BE
def OwnB (bf : BF) (grs : List (Nat × GQ)) (E : Env) (k : Nat) : Prop :=
  (∃ g t cs, bf g = some (.blk t cs) ∧ E.ρ g = k) ∨ (∃ j q, look grs j = some q ∧ (E.gr j).ownBlock = some k)
/-- what is so whatever becomes of the blocks that are not in R -/
def HeldIn (R : Nat → Prop) (w : World) (Φ : World → Prop) : Prop := ∃ D : Nat → Prop, (∀ k, D k → k < w.heap.size ∧ R k) ∧ ∀ w', (∀ k, D k → w'.heap[k]? = w.heap[k]?) → Φ w'
theorem HeldIn.out {R : Nat → Prop} {w : World} {Φ : World → Prop} (h : HeldIn R w Φ) : Φ w := by obtain ⟨D, _, h2⟩ := h; exact h2 w (fun _ _ => rfl)
theorem HeldIn.mono {R R' : Nat → Prop} {w : World} {Φ : World → Prop} (h : HeldIn R w Φ) (hR : ∀ k, k < w.heap.size → R k → R' k) : HeldIn R' w Φ := by
  obtain ⟨D, h1, h2⟩ := h
  exact ⟨D, fun k hk => ⟨(h1 k hk).1, hR k (h1 k hk).1 (h1 k hk).2⟩, h2⟩
theorem HeldIn.move {R : Nat → Prop} {w w' : World} {Φ : World → Prop} (h : HeldIn R w Φ) (hz : w.heap.size ≤ w'.heap.size) (hb : ∀ k, k < w.heap.size → R k → w'.heap[k]? = w.heap[k]?) : HeldIn R w' Φ := by
  obtain ⟨D, h1, h2⟩ := h
  exact ⟨D, fun k hk => ⟨Nat.lt_of_lt_of_le (h1 k hk).1 hz, (h1 k hk).2⟩, fun w'' hw => h2 w'' fun k hk => (hw k hk).trans (hb k (h1 k hk).1 (h1 k hk).2)⟩
theorem HeldIn.later {R : Nat → Prop} {w w' : World} {Φ : World → Prop} (h : HeldIn R w Φ) (hb : Below w.heap.size w w') : HeldIn R w' Φ := h.move hb.size fun k hk _ => hb.block k hk

/-- what is known of the memory -/
structure MemF (B : Nat) (bf : BF) (rds : List (Nat × Q)) (grs : List (Nat × GQ)) (E : Env) (w : World) : Prop where
  blk : ∀ g t cs, bf g = some (.blk t cs) → Blk w (E.ρ g) t (SV.vals E cs).toArray
  rd : ∀ s q, look rds s = some q → RdAt w q (E.sl s)
  gr : ∀ k q, look grs k = some q → GrAt w 0 q (E.gr k)
  one : ∀ g i, (E.x g i).oneCell' = true
/-- what is neither the call's own nor unknown to it -/
def Apart (B : Nat) (R : Nat → Prop) (bf : BF) (grs : List (Nat × GQ)) (E : Env) (k : Nat) : Prop := ¬ OwnB bf grs E k ∧ (B ≤ k ∨ R k)
/-- that the call's own blocks are apart from all else -/
structure SepF (B : Nat) (C R : Nat → Prop) (bf : BF) (rds : List (Nat × Q)) (grs : List (Nat × GQ)) (E : Env) (w : World) : Prop where
  base : ∀ g t cs, bf g = some (.blk t cs) → B ≤ E.ρ g ∨ C (E.ρ g)
  inj : ∀ g g' t t' cs cs', bf g = some (.blk t cs) → bf g' = some (.blk t' cs') → E.ρ g = E.ρ g' → g = g'
  ginj : (∀ k k' x y b, look grs k = some x → look grs k' = some y → (E.gr k).ownBlock = some b → (E.gr k').ownBlock = some b → k = k') ∧ ∀ k x b, look grs k = some x → (E.gr k).ownBlock = some b → B ≤ b ∨ C b
  mix : ∀ g k t cs y, bf g = some (.blk t cs) → look grs k = some y → (E.gr k).ownBlock ≠ some (E.ρ g)
  rd : ∀ s q b off, look rds s = some q → 0 < q.len → (E.sl s).A = some ⟨b, off, none⟩ → Apart B R bf grs E b
  held : ∀ g Φ, bf g = some (.held Φ) → HeldIn (Apart B R bf grs E) w (Φ (E.x g))
/-- what a callee may use of the memory at hand; R: the blocks that it may refer to -/
structure Mem (B : Nat) (R : Nat → Prop) (m : MState) (E : Env) (w : World) : Prop where
  size : B ≤ w.heap.size
  blk : ∀ g t cs, look m.blks g = some (.blk t cs) → Blk w (E.ρ g) t (SV.vals E cs).toArray
  rd : ∀ s q, look m.rds s = some q → RdAt w q (E.sl s)
  rdR : ∀ s q b off, look m.rds s = some q → 0 < q.len → (E.sl s).A = some ⟨b, off, none⟩ → R b
  gr : ∀ k q, look m.grs k = some q → GrAt w 0 q (E.gr k)
  held : ∀ g Φ, look m.blks g = some (.held Φ) → HeldIn R w (Φ (E.x g))
  one : ∀ g i, (E.x g i).oneCell' = true

/-- the state of a call: its slots, and the memory -/
structure SState where
  slots : List (Nat × SV)
  m : MState
/-- what all states of a call have in common: the world and the blocks that it came with, how many slots there are, what is deferred, the old blocks that it may refer to -/
structure Ctx where
  w0 : World
  C : Nat → Prop
  n : Nat
  D : List Deferred
  R : Nat → Prop
  /-- where the blocks are that it has caught: their numbers are 1000 and more -/
  ρ0 : Nat → Nat
  /-- what its arguments' slices are: their numbers are below 1000 -/
  sl0 : Nat → RS
  /-- the letters that it came with: their numbers are 1000 and more -/
  x0 : Nat → Nat → Value
structure StF (X : Ctx) (sf : Nat → Option SV) (bf : BF) (rds : List (Nat × Q)) (grs : List (Nat × GQ)) (E : Env) (a : Act) (w : World) : Prop where
  slot : ∀ t sv, sf t = some sv → a.tmps[t]? = some (sv.val E)
  size : a.tmps.size = X.n
  defers : a.defers = X.D
  kept : Kept X.C X.w0 w
  mem : MemF X.w0.heap.size bf rds grs E w
  sep : SepF X.w0.heap.size X.C X.R bf rds grs E w
  pin : (∀ g, 1000 ≤ g → E.ρ g = X.ρ0 g) ∧ (∀ s, s < 1000 → E.sl s = X.sl0 s) ∧ ∀ g, 1000 ≤ g → E.x g = X.x0 g
def St (X : Ctx) (st : SState) (E : Env) (a : Act) (w : World) : Prop := StF X (look st.slots) (look st.m.blks) st.m.rds st.m.grs E a w
end Go.Proofs.Ytlcccomdijdkaaa
