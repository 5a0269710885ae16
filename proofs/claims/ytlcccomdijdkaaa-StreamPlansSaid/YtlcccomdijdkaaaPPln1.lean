import Derived.WalkKit
import Derived.LoopN
import Derived.KernelRfl
import Derived.Maps.AppendAt
import Derived.Laws.Slices
namespace Go.Proofs.Ytlcccomdijdkaaa
open Go.RowKit

/-- only blocks of C, and new ones, have turned -/
structure Kept (C : Nat → Prop) (a b : World) : Prop where
  os : b.os = a.os
  tape : b.tape = a.tape
  output : b.output = a.output
  size : a.heap.size ≤ b.heap.size
  block : ∀ k, k < a.heap.size → ¬ C k → b.heap[k]? = a.heap[k]?
theorem Kept.refl (C : Nat → Prop) (a : World) : Kept C a a := ⟨rfl, rfl, rfl, Nat.le_refl _, fun _ _ _ => rfl⟩
theorem Kept.trans {C : Nat → Prop} {a b c : World} (h : Kept C a b) (k : Kept C b c) : Kept C a c :=
  ⟨k.os.trans h.os, k.tape.trans h.tape, k.output.trans h.output, Nat.le_trans h.size k.size, fun i hi hc => (k.block i (Nat.lt_of_lt_of_le hi h.size) hc).trans (h.block i hi hc)⟩
theorem Kept.mono {C C' : Nat → Prop} {a b : World} (h : Kept C a b) (hc : ∀ k, k < a.heap.size → C k → C' k) : Kept C' a b := ⟨h.os, h.tape, h.output, h.size, fun k hk hn => h.block k hk (fun e => hn (hc k hk e))⟩
theorem Kept.of_below {C : Nat → Prop} {a b : World} (h : Below a.heap.size a b) : Kept C a b := ⟨h.os, h.tape, h.output, h.size, fun k hk _ => h.block k hk⟩
theorem Kept.below {C : Nat → Prop} {a b : World} (h : Kept C a b) {B : Nat} (hB : B ≤ a.heap.size) (hC : ∀ k, k < B → ¬ C k) : Below B a b :=
  ⟨h.os, h.tape, h.output, h.size, fun k hk => h.block k (by omega) (hC k hk)⟩
theorem Kept.drew {C : Nat → Prop} {a b : World} (h : Kept C a b) : Kept C a b.drew := ⟨h.os, h.tape, h.output, h.size, h.block⟩
theorem Kept.alloc {C : Nat → Prop} {a b : World} (h : Kept C a b) (o : Obj) : Kept C a (b.alloc o) := h.trans (Kept.of_below ((Below.refl _ _).alloc (Nat.le_refl _) o))
theorem Kept.setCell {C : Nat → Prop} {a b : World} (h : Kept C a b) {p : Addr} (hp : C p.block) (u : Value) : Kept C a (b.setCell p u) :=
  h.trans ⟨rfl, rfl, rfl, by simp [World.setCell], fun k _ hn => Below.heap_setCell _ _ _ _ (fun e => hn (by rw [e]; exact hp))⟩

/-- block g is just these cells, none frozen -/
def Blk (w : World) (g : Nat) (t : TypeId) (cs : Array Value) : Prop := w.heap[g]? = some (.cells cs t (0, 0))
section
variable {w w' : World} {g : Nat} {t : TypeId} {cs : Array Value}
theorem Blk.lt (h : Blk w g t cs) : g < w.heap.size := (Array.getElem?_eq_some_iff.1 h).1
theorem Blk.cell (h : Blk w g t cs) (i : Nat) : w.cell? ⟨g, i, none⟩ = cs[i]? := cell_of_row w g i cs t (0, 0) h
theorem Blk.frozen (h : Blk w g t cs) (i : Nat) : w.frozen? ⟨g, i, none⟩ = false := by
  unfold Blk at h
  simp [World.frozen?, h]
theorem Blk.new (w : World) (t : TypeId) (cs : Array Value) : Blk (w.alloc (.cells cs t)) w.heap.size t cs := heap_alloc_new w _
theorem Blk.drew (h : Blk w g t cs) : Blk w.drew g t cs := h
theorem Blk.set_ (h : Blk w g t cs) (i : Nat) (u : Value) : Blk (w.setCell ⟨g, i, none⟩ u) g t (cs.setIfInBounds i u) := by
  unfold Blk at h ⊢
  simp [World.setCell, Array.getElem?_modify, h]
theorem Blk.kept {C : Nat → Prop} (h : Blk w g t cs) (hk : Kept C w w') (hc : ¬ C g) : Blk w' g t cs := (hk.block g h.lt hc).trans h
end

/-- a slice that is read: where it is, how long, how many cells an element has, and what they hold -/
structure RS where
  A : Option Addr
  len : Nat
  cap : Nat
  n : Nat
structure Q where
  len : Nat
  n : Nat
  get : Nat → List Value
/-- a slice that grows: the type of its elements, their cells, how many, what they hold -/
structure GQ where
  ty : TypeId
  n : Nat
  len : Nat
  xs : List Value
structure Env where
  ρ : Nat → Nat
  sl : Nat → RS
  gr : Nat → Value
  /-- what calls have returned that hangs on the world that they came in -/
  x : Nat → Nat → Value

inductive SV where
  | v (x : Value)
  | own (g off : Nat)
  | sl (s : Nat)
  | at (s : Nat) (i : Int) (off : Nat)
  | gr (k : Nat)
  | ltr (g i : Nat)
  | row (g off len cap : Nat)
  /-- a part of the slice s -/
  | sub (s a b : Nat)
  | agg (xs : List SV)
  | tup (xs : List SV)
  | fn (f : Nat) (cap : List SV)
  /-- under a guard: slot d has to be want; whether it is; the value then -/
  | gd (d : Nat) (want W : Bool) (x : SV)
  deriving Inhabited
/-- a part of a slice, as a value -/
def subV (r : RS) (a b : Nat) : Value := .slice (if r.cap = a then r.A else r.A.map (·.add (a * r.n))) (b - a) (r.cap - a)
mutual
def SV.val (E : Env) : SV → Value
  | .v x => x
  | .own g off => .pointer (some ⟨E.ρ g, off, none⟩)
  | .sl s => .slice (E.sl s).A (E.sl s).len (E.sl s).cap
  | .at s i off => .pointer ((E.sl s).A.map fun a => ⟨a.block, a.off + (i.toNat * (E.sl s).n + off), none⟩)
  | .gr k => E.gr k
  | .ltr g i => E.x g i
  | .row g off len cap => .slice (some ⟨E.ρ g, off, none⟩) len cap
  | .sub s a b => subV (E.sl s) a b
  | .agg xs => .agg (SV.vals E xs).toArray
  | .tup xs => .tuple (SV.vals E xs).toArray
  | .fn f cap => .func (.func f) #[] (SV.vals E cap).toArray
  | .gd _ _ W x => bif W then x.val E else undef
def SV.vals (E : Env) : List SV → List Value
  | [] => []
  | x :: xs => x.val E :: SV.vals E xs
end
theorem SV.vals_map (E : Env) (xs : List SV) : SV.vals E xs = xs.map (SV.val E) := by
  induction xs with
  | nil => simp [SV.vals]
  | cons x xs ih => simp [SV.vals, ih]

def look {β : Type} : List (Nat × β) → Nat → Option β
  | [], _ => none
  | (k, x) :: r, t => bif Nat.beq k t then some x else look r t
theorem look_same {β : Type} (k : Nat) (x : β) (r : List (Nat × β)) : look ((k, x) :: r) k = some x := by simp [look]
theorem look_ne {β : Type} {k t : Nat} (h : k ≠ t) (x : β) (r : List (Nat × β)) : look ((k, x) :: r) t = look r t := by
  have : Nat.beq k t = false := by
    cases e : Nat.beq k t with
    | false => rfl
    | true => exact absurd (Nat.eq_of_beq_eq_true e) h
  simp [look, this]
theorem look_cases {β : Type} {k t : Nat} {x y : β} {r : List (Nat × β)} (h : look ((k, x) :: r) t = some y) : (k = t ∧ x = y) ∨ (k ≠ t ∧ look r t = some y) := by
  by_cases e : k = t
  · subst e; rw [look_same] at h; exact .inl ⟨rfl, by simpa using h⟩
  · rw [look_ne e] at h; exact .inr ⟨e, h⟩

/-- a block of the call's own; or letters that a call returned, and what is known of them -/
inductive BE where
  | blk (t : TypeId) (cs : List SV)
  | held (Φ : (Nat → Value) → World → Prop)
structure MState where
  blks : List (Nat × BE)
  rds : List (Nat × Q)
  grs : List (Nat × GQ)

def RdAt (w : World) (q : Q) (r : RS) : Prop :=
  r.len = q.len ∧ r.n = q.n ∧ q.len ≤ r.cap ∧ (0 < q.len → ∃ b off, r.A = some ⟨b, off, none⟩ ∧ b < w.heap.size ∧ ∀ i, i < q.len → ∀ j v, (q.get i)[j]? = some v → w.cell? ⟨b, off + (i * q.n + j), none⟩ = some v)
def GrAt (w : World) (B : Nat) (q : GQ) (v : Value) : Prop := w.ownsRow B q.ty q.n v q.len q.xs

abbrev BF := Nat → Option BE
def OwnB (bf : BF) (grs : List (Nat × GQ)) (E : Env) (k : Nat) : Prop :=
  (∃ g t cs, bf g = some (.blk t cs) ∧ E.ρ g = k) ∨ (∃ j q, look grs j = some q ∧ (E.gr j).ownBlock = some k)
/-- what is so whatever becomes of the blocks that are not in R -/
def HeldIn (R : Nat → Prop) (w : World) (Φ : World → Prop) : Prop := ∃ D : Nat → Prop, (∀ k, D k → k < w.heap.size ∧ R k) ∧ ∀ w', (∀ k, D k → w'.heap[k]? = w.heap[k]?) → Φ w'
theorem HeldIn.out {R : Nat → Prop} {w : World} {Φ : World → Prop} (h : HeldIn R w Φ) : Φ w := by obtain ⟨D, _, h2⟩ := h; exact h2 w (fun _ _ => rfl)
theorem HeldIn.mono {R R' : Nat → Prop} {w : World} {Φ : World → Prop} (h : HeldIn R w Φ) (hR : ∀ k, k < w.heap.size → R k → R' k) : HeldIn R' w Φ := by
  obtain ⟨D, h1, h2⟩ := h
  exact ⟨D, fun k hk => ⟨(h1 k hk).1, hR k (h1 k hk).1 (h1 k hk).2⟩, h2⟩
theorem HeldIn.move {R : Nat → Prop} {w w' : World} {Φ : World → Prop} (h : HeldIn R w Φ) (hz : w.heap.size ≤ w'.heap.size) (hb : ∀ k, k < w.heap.size → R k → w'.heap[k]? = w.heap[k]?) : HeldIn R w' Φ := by
  obtain ⟨D, h1, h2⟩ := h
  exact ⟨D, fun k hk => ⟨Nat.lt_of_lt_of_le (h1 k hk).1 hz, (h1 k hk).2⟩, fun w'' hw => h2 w'' fun k hk => (hw k hk).trans (hb k (h1 k hk).1 (h1 k hk).2)⟩
theorem HeldIn.later {R : Nat → Prop} {w w' : World} {Φ : World → Prop} (h : HeldIn R w Φ) (hb : Below w.heap.size w w') : HeldIn R w' Φ := h.move hb.size fun k hk _ => hb.block k hk

/-- what is known of the memory -/
structure MemF (B : Nat) (bf : BF) (rds : List (Nat × Q)) (grs : List (Nat × GQ)) (E : Env) (w : World) : Prop where
  blk : ∀ g t cs, bf g = some (.blk t cs) → Blk w (E.ρ g) t (SV.vals E cs).toArray
  rd : ∀ s q, look rds s = some q → RdAt w q (E.sl s)
  gr : ∀ k q, look grs k = some q → GrAt w 0 q (E.gr k)
  one : ∀ g i, (E.x g i).oneCell' = true
/-- what is neither the call's own nor unknown to it -/
def Apart (B : Nat) (R : Nat → Prop) (bf : BF) (grs : List (Nat × GQ)) (E : Env) (k : Nat) : Prop := ¬ OwnB bf grs E k ∧ (B ≤ k ∨ R k)
/-- that the call's own blocks are apart from all else -/
structure SepF (B : Nat) (C R : Nat → Prop) (bf : BF) (rds : List (Nat × Q)) (grs : List (Nat × GQ)) (E : Env) (w : World) : Prop where
  base : ∀ g t cs, bf g = some (.blk t cs) → B ≤ E.ρ g ∨ C (E.ρ g)
  inj : ∀ g g' t t' cs cs', bf g = some (.blk t cs) → bf g' = some (.blk t' cs') → E.ρ g = E.ρ g' → g = g'
  ginj : (∀ k k' x y b, look grs k = some x → look grs k' = some y → (E.gr k).ownBlock = some b → (E.gr k').ownBlock = some b → k = k') ∧ ∀ k x b, look grs k = some x → (E.gr k).ownBlock = some b → B ≤ b ∨ C b
  mix : ∀ g k t cs y, bf g = some (.blk t cs) → look grs k = some y → (E.gr k).ownBlock ≠ some (E.ρ g)
  rd : ∀ s q b off, look rds s = some q → 0 < q.len → (E.sl s).A = some ⟨b, off, none⟩ → Apart B R bf grs E b
  held : ∀ g Φ, bf g = some (.held Φ) → HeldIn (Apart B R bf grs E) w (Φ (E.x g))
/-- what a callee may use of the memory at hand; R: the blocks that it may refer to -/
structure Mem (B : Nat) (R : Nat → Prop) (m : MState) (E : Env) (w : World) : Prop where
  size : B ≤ w.heap.size
  blk : ∀ g t cs, look m.blks g = some (.blk t cs) → Blk w (E.ρ g) t (SV.vals E cs).toArray
  rd : ∀ s q, look m.rds s = some q → RdAt w q (E.sl s)
  rdR : ∀ s q b off, look m.rds s = some q → 0 < q.len → (E.sl s).A = some ⟨b, off, none⟩ → R b
  gr : ∀ k q, look m.grs k = some q → GrAt w 0 q (E.gr k)
  held : ∀ g Φ, look m.blks g = some (.held Φ) → HeldIn R w (Φ (E.x g))
  one : ∀ g i, (E.x g i).oneCell' = true

/-- the state of a call: its slots, and the memory -/
structure SState where
  slots : List (Nat × SV)
  m : MState
/-- what all states of a call have in common: the world and the blocks that it came with, how many slots there are, what is deferred, the old blocks that it may refer to -/
structure Ctx where
  w0 : World
  C : Nat → Prop
  n : Nat
  D : List Deferred
  R : Nat → Prop
  /-- where the blocks are that it has caught: their numbers are 1000 and more -/
  ρ0 : Nat → Nat
  /-- what its arguments' slices are: their numbers are below 1000 -/
  sl0 : Nat → RS
  /-- the letters that it came with: their numbers are 1000 and more -/
  x0 : Nat → Nat → Value
structure StF (X : Ctx) (sf : Nat → Option SV) (bf : BF) (rds : List (Nat × Q)) (grs : List (Nat × GQ)) (E : Env) (a : Act) (w : World) : Prop where
  slot : ∀ t sv, sf t = some sv → a.tmps[t]? = some (sv.val E)
  size : a.tmps.size = X.n
  defers : a.defers = X.D
  kept : Kept X.C X.w0 w
  mem : MemF X.w0.heap.size bf rds grs E w
  sep : SepF X.w0.heap.size X.C X.R bf rds grs E w
  pin : (∀ g, 1000 ≤ g → E.ρ g = X.ρ0 g) ∧ (∀ s, s < 1000 → E.sl s = X.sl0 s) ∧ ∀ g, 1000 ≤ g → E.x g = X.x0 g
def St (X : Ctx) (st : SState) (E : Env) (a : Act) (w : World) : Prop := StF X (look st.slots) (look st.m.blks) st.m.rds st.m.grs E a w
end Go.Proofs.Ytlcccomdijdkaaa
namespace Go.Proofs.Ytlcccomdijdkaaa
open Go.RowKit

inductive Ty where
  | one
  | int (k : IntKind)
  | str (fs : List (Nat × Nat × Bool))
  | sli (e : TypeId) (es : Nat)
  | arr (len es : Nat) (ag : Bool)
  | boo
  deriving DecidableEq
structure TyD where
  k : Ty
  n : Nat
  z : List Value
  eq : Bool := false
  by' : Nat := 0
abbrev Lay := List (Nat × TyD)
def aggB (P : Program) (t : TypeId) : Bool := match P.underlying t with
  | some (.struct _) => true
  | some (.array _ _) => true
  | _ => false
def knownB (P : Program) (t : TypeId) : Bool := (P.info? t).isSome && (P.underlying t).isSome
def shapeB (P : Program) (t : TypeId) : Option Ty := match P.underlying t with
  | some (.struct fs) => if fs.toList.all (fun f => knownB P f.type) then some (.str (fs.toList.map fun f => (f.offset, P.cellsOf f.type, aggB P f.type))) else none
  | some (.slice e) => if knownB P e then some (.sli e (P.cellsOf e)) else none
  | some (.array n e) => if knownB P e then some (.arr n (P.cellsOf e) (aggB P e)) else none
  | some (.int k) => some (.int k)
  | some .bool => some .boo
  | some _ => some .one
  | none => none
def eqL : List Int → List Int → Bool
  | [], [] => true
  | [a], [b] => a == b
  | a :: as, b :: bs => (a == b) && eqL as bs
  | _, _ => false
structure TyOK (P : Program) (t : TypeId) (d : TyD) : Prop where
  shape : shapeB P t = some d.k
  info : (P.info? t).map (fun i => (i.size, i.zero.map fun v => v.cells.toList)) = some (d.n, some d.z)
  bytes : P.bytesOf t = d.by'
  zlen : d.z.length = d.n
  /-- two structs of integers are compared cell by cell -/
  eq : d.eq = true → ∀ (xs ys : List Int) (w : World), xs.length = d.n → ys.length = d.n →
    (Op.equal t (.agg (xs.map (Value.int .i64)).toArray) (.agg (ys.map (Value.int .i64)).toArray)).run P w = .ok (eqL xs ys) w ∧ P.eqGuardType P.depth t = false
def LayOK (P : Program) (lay : Lay) : Prop := ∀ t d, look lay t = some d → TyOK P t d
theorem LayOK.nil (P : Program) : LayOK P [] := fun t d h => by simp [look] at h
theorem LayOK.cons {P : Program} {t : Nat} {d : TyD} {r : Lay} (h : TyOK P t d) (hr : LayOK P r) : LayOK P ((t, d) :: r) := fun t' d' h' => by
  rcases look_cases h' with ⟨rfl, rfl⟩ | ⟨_, h2⟩
  · exact h
  · exact hr _ _ h2

def isAggT : Ty → Bool
  | .str _ => true
  | .arr _ _ _ => true
  | _ => false
section
variable {P : Program} {t : TypeId} {d : TyD}
theorem TyOK.size (h : TyOK P t d) : P.cellsOf t = d.n ∧ ∃ i, P.info? t = some i ∧ i.size = d.n ∧ ∃ z, i.zero = some z ∧ z.cells.toList = d.z := by
  have h1 := h.info
  cases hi : P.info? t with
  | none => rw [hi] at h1; simp at h1
  | some i =>
    rw [hi] at h1
    simp only [Option.map_some, Option.some.injEq, Prod.mk.injEq] at h1
    obtain ⟨h2, h3⟩ := h1
    cases hz : i.zero with
    | none => rw [hz] at h3; simp at h3
    | some z =>
      rw [hz] at h3
      exact ⟨by simp [Program.cellsOf, hi, h2], i, rfl, h2, z, hz, by simpa using h3⟩
theorem TyOK.run_size (h : TyOK P t d) (w : World) : (sizeOf t).run P w = .ok d.n w := by
  obtain ⟨_, i, hi, hs, _⟩ := h.size
  simp [sizeOf, typeInfo, program, Sem.run, hi, hs, go_sem, Result.andThen]
theorem TyOK.run_zero (h : TyOK P t d) (w : World) : ∃ z, (zeroValue t).run P w = .ok z w ∧ z.cells.toList = d.z := by
  obtain ⟨_, i, hi, hs, z, hz, hc⟩ := h.size
  exact ⟨z, by simp [zeroValue, typeInfo, program, Sem.run, hi, hz, go_sem, Result.andThen], hc⟩
theorem TyOK.under (h : TyOK P t d) : ∃ u, P.underlying t = some u ∧ (match d.k with
    | .one => (match u with | .struct _ => False | .array _ _ => False | .slice _ => False | _ => True)
    | .int k => u = .int k
    | .str fs => ∃ f, u = .struct f ∧ (∀ x ∈ f.toList, knownB P x.type = true) ∧ fs = f.toList.map fun f => (f.offset, P.cellsOf f.type, aggB P f.type)
    | .sli e es => u = .slice e ∧ knownB P e = true ∧ es = P.cellsOf e
    | .arr n es ag => ∃ e, u = .array n e ∧ knownB P e = true ∧ es = P.cellsOf e ∧ ag = aggB P e
    | .boo => u = .bool) := by
  have h1 := h.shape
  unfold shapeB at h1
  cases hu : P.underlying t with
  | none => rw [hu] at h1; simp at h1
  | some u =>
    rw [hu] at h1
    refine ⟨u, rfl, ?_⟩
    cases u
    case struct fs =>
      simp only at h1
      by_cases hk : fs.toList.all (fun f => knownB P f.type) = true
      · rw [if_pos hk] at h1
        simp only [Option.some.injEq] at h1
        rw [← h1]
        exact ⟨_, rfl, fun x hx => List.all_eq_true.1 hk x hx, rfl⟩
      · rw [if_neg hk] at h1; cases h1
    case slice e =>
      simp only at h1
      by_cases hk : knownB P e = true
      · rw [if_pos hk] at h1
        simp only [Option.some.injEq] at h1
        rw [← h1]
        exact ⟨rfl, hk, rfl⟩
      · rw [if_neg hk] at h1; cases h1
    case array n e =>
      simp only at h1
      by_cases hk : knownB P e = true
      · rw [if_pos hk] at h1
        simp only [Option.some.injEq] at h1
        rw [← h1]
        exact ⟨_, rfl, hk, rfl, rfl⟩
      · rw [if_neg hk] at h1; cases h1
    all_goals (simp only [Option.some.injEq] at h1; rw [← h1]; try trivial)
theorem knownB.run_size (h : knownB P t = true) (w : World) : (sizeOf t).run P w = .ok (P.cellsOf t) w := by
  simp only [knownB, Bool.and_eq_true, Option.isSome_iff_exists] at h
  obtain ⟨⟨i, hi⟩, _⟩ := h
  simp [sizeOf, typeInfo, program, Sem.run, hi, go_sem, Result.andThen, Program.cellsOf]
theorem run_isAgg (ht : ∃ u, P.underlying t = some u) (w : World) : (isAgg t).run P w = .ok (aggB P t) w := by
  obtain ⟨u, hu⟩ := ht
  unfold isAgg aggB
  simp only [Sem.run_bind, run_underlying hu, Result.andThen_ok, hu]
  cases u <;> rfl
theorem TyOK.run_agg (h : TyOK P t d) (w : World) : (isAgg t).run P w = .ok (isAggT d.k) w := by
  obtain ⟨u, hu, hm⟩ := h.under
  rw [run_isAgg ⟨u, hu⟩, show aggB P t = isAggT d.k from ?_]
  unfold aggB
  rw [hu]
  cases hk : d.k <;> rw [hk] at hm <;> simp only at hm <;> simp only [isAggT]
  · cases u <;> simp_all
  · subst hm; rfl
  · obtain ⟨f, rfl, _⟩ := hm; rfl
  · obtain ⟨rfl, _⟩ := hm; rfl
  · obtain ⟨f, rfl, _⟩ := hm; rfl
  · subst hm; rfl
end

def EntersOK (P : Program) (f : Nat) : Prop := ∀ (args : Array Value) (w : World), (callFunc f args).run P w = .ok (.enter f args) w
/-- what is owed beside the reckoning -/
inductive Ob where
  | rng (k : IntKind) (e : Int)
  | nz (b : Int)
  | idx (i : Int) (n : Nat)
  | sub (a b : Int) (n : Nat)
  | app (q : Q) (b : Nat)
  | eq (x y : SV)
  | imp (p q : Bool)
  | when (p : Bool) (o : Ob)
  | call (m : MState) (f : Nat) (args : List SV) (res : SV)
  | callx (m : MState) (g f : Nat) (args : List SV) (res : SV) (Φ : (Nat → Value) → World → Prop)
  /-- an operation that reads at most, by itself: what it yields; what function it enters; what it makes -/
  | pure (m : MState) (op : Op) (xs : List SV) (res : SV)
  | ent (op : Op) (xs : List SV) (f : Nat) (args : List SV)
  | ext (g : Nat) (op : Op) (xs : List SV) (res : SV) (Φ : (Nat → Value) → World → Prop)
def Env.updX (E : Env) (g : Nat) (v : Nat → Value) : Env := { E with x := fun k => if k = g then v else E.x k }
def Ob.holds (P : Program) (B : Nat) : Ob → Prop
  | .rng k e => k.wrap e = e
  | .nz b => ¬ b = 0
  | .idx i n => 0 ≤ i ∧ i < n
  | .sub a b n => 0 ≤ a ∧ a ≤ b ∧ b ≤ n
  | .app q b => (∀ j, (q.get j).length = q.n ∧ ∀ v ∈ q.get j, v.oneCell' = true) ∧ q.len ≤ 4611686018427387904 ∧ q.len * b ≤ 140737488355328
  | .eq x y => ∀ E, x.val E = y.val E
  | .imp p q => p = true → q = true
  | .when p o => p = true → o.holds P B
  | .call m f args res => EntersOK P f ∧ ∀ E W R, Mem B R m E W → Calls P f (SV.vals E args).toArray W fun e w' => e = .returned (res.val E) ∧ Below W.heap.size W w'
  | .callx m g f args res Φ => EntersOK P f ∧ ∀ E W R, Mem B R m E W → Calls P f (SV.vals E args).toArray W fun e w' => ∃ v, e = .returned (res.val (E.updX g v)) ∧ Below W.heap.size W w' ∧ (∀ i, (v i).oneCell' = true) ∧ HeldIn (fun k => W.heap.size ≤ k ∨ R k) w' (Φ v)
  | .pure m op xs res => ∀ E w R ρ dst ty pos aft gd, Mem B R m E w → op.operands.toList.map ρ = SV.vals E xs → (execOp ρ ⟨dst, op, ty, pos, aft, gd⟩).run P w = .ok (.value (res.val E)) w
  | .ent op xs f args => ∀ E w ρ dst ty pos aft gd, op.operands.toList.map ρ = SV.vals E xs → (execOp ρ ⟨dst, op, ty, pos, aft, gd⟩).run P w = .ok (.enter f (SV.vals E args).toArray) w
  | .ext g op xs res Φ => ∀ E w ρ dst ty pos aft gd, op.operands.toList.map ρ = SV.vals E xs → ∃ v w', (execOp ρ ⟨dst, op, ty, pos, aft, gd⟩).run P w = .ok (.value (res.val (E.updX g v))) w' ∧ Below w.heap.size w w' ∧ (∀ i, (v i).oneCell' = true) ∧ HeldIn (fun k => w.heap.size ≤ k) w' (Φ v)
def AllOb (P : Program) (B : Nat) : List Ob → Prop
  | [] => True
  | o :: r => o.holds P B ∧ AllOb P B r
theorem AllOb.append {P : Program} {B : Nat} : ∀ {l r : List Ob}, AllOb P B (l ++ r) → AllOb P B l ∧ AllOb P B r
  | [], _, h => ⟨trivial, h⟩
  | _ :: _, _, h => ⟨⟨h.1, (AllOb.append h.2).1⟩, (AllOb.append h.2).2⟩

/-- og: the operation's guard is open; pk: it picks by an open slot -/
structure Hint where
  og : Bool := false
  pk : Bool := false
  g : Nat := 0
  w : Bool := false
  cast : Option SV := none
  fp : List Nat := []
  res : SV := .v undef
  hx : Option ((Nat → Value) → World → Prop) := none
  /-- by itself -/
  px : Option SV := none
  pf : Option (Nat × List SV) := none
inductive Out where
  | val (sv : SV)
  | new (ty : TypeId) (cells : List SV) (sv : SV)
  | sto (g : Nat) (off : Nat) (ty : TypeId) (old : List SV) (xs : List SV)
  | call (f : Nat) (args : List SV) (res : SV)
  | callx (f : Nat) (args : List SV) (res : SV) (Φ : (Nat → Value) → World → Prop)
  | ext (res : SV) (Φ : (Nat → Value) → World → Prop)
/-- a copy of a slice that is read -/
def CopyOf (q : Q) : (Nat → Value) → World → Prop := fun v w => ∃ A cap, v 0 = .slice A q.len cap ∧ RdAt w q ⟨A, q.len, cap, q.n⟩

def opnd (σ : List (Nat × SV)) : Operand → Option SV
  | .tmp t => look σ t
  | .const x => some (.v x)
  | .global g => some (.v (.pointer (some ⟨g, 0, none⟩)))
  | .func f => some (.v (.func (.func f) #[] #[]))
def opnds (σ : List (Nat × SV)) : List Operand → Option (List SV)
  | [] => some []
  | x :: xs => match opnd σ x, opnds σ xs with
    | some v, some vs => some (v :: vs)
    | _, _ => none
/-- it is a value of one cell -/
def oneB (m : MState) : SV → Bool
  | .v x => x.oneCell'
  | .agg _ => false
  | .tup _ => false
  | .gr k => (look m.grs k).isSome
  | .gd _ _ _ _ => false
  | _ => true
/-- the cells of a value -/
def cellsSV (m : MState) : SV → Option (List SV)
  | .agg xs => match xs.all (oneB m) with
    | true => some xs
    | false => none
  | x => match oneB m x with
    | true => some [x]
    | false => none
def partSV (xs : List SV) (off n : Nat) : Bool → Option SV
  | true => some (.agg ((xs.drop off).take n))
  | false => xs[off]?
def ar (k : IntKind) (w : Bool) (e : Int) : SV × List Ob := match w with
  | true => (.v (.int k (k.wrap e)), [])
  | false => (.v (.int k e), [.rng k e])
def evInt (op : BinOp) (k : IntKind) (w : Bool) (a b : Int) : Option (SV × List Ob) := match op with
  | .add => some (ar k w (a + b))
  | .sub => some (ar k w (a - b))
  | .mul => some (ar k w (a * b))
  | .quo => some ((ar k w (a.tdiv b)).1, .nz b :: (ar k w (a.tdiv b)).2)
  | .rem => some (.v (.int k (a.tmod b)), [.nz b])
  | .and => some (.v (.int k (bits .and k a b)), [])
  | .or => some (.v (.int k (bits .or k a b)), [])
  | .xor => some (.v (.int k (bits .xor k a b)), [])
  | .andNot => some (.v (.int k (bits .andNot k a b)), [])
  | .eql => some (.v (.bool (a == b)), [])
  | .neq => some (.v (.bool (a != b)), [])
  | .lss => some (.v (.bool (decide (a < b))), [])
  | .leq => some (.v (.bool (decide (a ≤ b))), [])
  | .gtr => some (.v (.bool (decide (b < a))), [])
  | .geq => some (.v (.bool (decide (b ≤ a))), [])
  | _ => none
def intsSV : List SV → Option (List Int)
  | [] => some []
  | .v (.int .i64 a) :: r => match intsSV r with
    | some l => some (a :: l)
    | none => none
  | _ => none
def evBin (lay : Lay) (op : BinOp) (t : TypeId) (w : Bool) (x y : SV) : Option (SV × List Ob) := match x, y with
  | .v (.int k a), .v (.int k' b) => match decide (k = k') with
    | true => evInt op k w a b
    | false => none
  | .agg xs, .agg ys => match op, look lay t, intsSV xs, intsSV ys with
    | .eql, some d, some as, some bs => match d.eq && Nat.beq as.length d.n && Nat.beq bs.length d.n with
      | true => some (.v (.bool (eqL as bs)), [])
      | false => none
    | .neq, some d, some as, some bs => match d.eq && Nat.beq as.length d.n && Nat.beq bs.length d.n with
      | true => some (.v (.bool (!eqL as bs)), [])
      | false => none
    | _, _, _, _ => none
  | .v (.bool a), .v (.bool b) => match op, look lay t with
    | .eql, some d => match decide (d.k = .boo) with
      | true => some (.v (.bool (a == b)), [])
      | false => none
    | .neq, some d => match decide (d.k = .boo) with
      | true => some (.v (.bool (!(a == b))), [])
      | false => none
    | _, _ => none
  | _, _ => none
/-- filling of a struct's zero cells with parts -/
def fillSV (m : MState) (fs : List (Nat × Nat × Bool)) (cells : List SV) : List (Nat × SV) → Option (List SV)
  | [] => some cells
  | (i, v) :: rest => match fs[i]?, cellsSV m v with
    | some (off, size, _), some vs => match Nat.beq vs.length size && Nat.ble (off + size) cells.length with
      | true => fillSV m fs (cells.take off ++ vs ++ cells.drop (off + size)) rest
      | false => none
    | _, _ => none
def opndsP (σ : List (Nat × SV)) : List (Nat × Operand) → Option (List (Nat × SV))
  | [] => some []
  | (i, x) :: xs => match opnd σ x, opndsP σ xs with
    | some v, some vs => some ((i, v) :: vs)
    | _, _ => none
def concatSV (m : MState) (n : Nat) : List (Nat × SV) → Nat → Option (List SV)
  | [], _ => some []
  | (i, v) :: rest, j => match Nat.beq i j, cellsSV m v, concatSV m n rest (j + 1) with
    | true, some vs, some r => match Nat.beq vs.length n with
      | true => some (vs ++ r)
      | false => none
    | _, _, _ => none
def mins2 (a : Int) : List SV → Option Int
  | [] => some a
  | .v (.int .i64 b) :: r => mins2 (min a b) r
  | _ => none
def maxs2 (a : Int) : List SV → Option Int
  | [] => some a
  | .v (.int .i64 b) :: r => maxs2 (max a b) r
  | _ => none
def restr (fp : List Nat) : List (Nat × BE) → List (Nat × BE)
  | [] => []
  | (g, x) :: r => bif fp.any (Nat.beq g) then (g, x) :: restr fp r else restr fp r
def MState.foot (m : MState) (fp : List Nat) : MState := { m with blks := restr fp m.blks }

/-- the value of a slot, if slot d is want; what is owed for that, if p says that it is -/
def projSV (d : Nat) (want p : Bool) : SV → SV × List Ob
  | .gd d' want' W x => match Nat.beq d d', want, want' with
    | true, true, true => (x, [.imp p W])
    | true, false, false => (x, [.imp p W])
    | _, _, _ => (.gd d' want' W x, [])
  | x => (x, [])
def pickSV (d : Nat) (p : Bool) (x y : SV) : Option (SV × List Ob) := match projSV d true p x, projSV d false (!p) y with
  | (.v (.bool u), o1), (.v (.bool v), o2) => some (.v (.bool (cond p u v)), o1 ++ o2)
  | _, _ => none
/-- a bound of a part of a slice -/
def boundSV (σ : List (Nat × SV)) : Option Operand → Int → Option Int
  | none, d => some d
  | some z, _ => match opnd σ z with
    | some (.v (.int .i64 a)) => some a
    | _ => none
def evalOp0 (lay : Lay) (σ : List (Nat × SV)) (m : MState) (h : Hint) : Op → Option (Out × List Ob)
  | .move x => match opnd σ x with | some v => some (.val v, []) | none => none
  | .assign x => match opnd σ x with | some v => some (.val v, []) | none => none
  | .pick c a b => match h.pk with
    | true => match c with
      | .tmp d => match look σ d, opnd σ a, opnd σ b with
        | some (.v (.bool p)), some x, some y => match pickSV d p x y with
          | some (v, obs) => some (.val v, obs)
          | none => none
        | _, _, _ => none
      | _ => none
    | false => match opnd σ c with
      | some (.v (.bool true)) => match opnd σ a with | some v => some (.val v, []) | none => none
      | some (.v (.bool false)) => match opnd σ b with | some v => some (.val v, []) | none => none
      | _ => none
  | .alloc t => match look lay t with
    | some d => some (.new t (d.z.map SV.v) (.own h.g 0), [])
    | none => none
  | .box t x => match opnd σ x with
    | some v => match cellsSV m v with
      | some cs => some (.new t cs (.own h.g 0), [])
      | none => none
    | none => none
  | .build t ps => match look lay t with
    | some ⟨.str fs, _, z, _, _⟩ => match opndsP σ ps.toList with
      | some qs => match fillSV m fs (z.map SV.v) qs with
        | some cs => some (.val (.agg cs), [])
        | none => none
      | none => none
    | _ => none
  | .load t x => match look lay t, opnd σ x with
    | some d, some (.own g off) => match look m.blks g with
      | some (.blk _ cs) => match Nat.ble (off + d.n) cs.length && (isAggT d.k || Nat.beq d.n 1) with
        | true => match partSV cs off d.n (isAggT d.k) with
          | some v => some (.val v, [])
          | none => none
        | false => none
      | _ => none
    | some d, some (.at s i off) => match look m.rds s with
      | some q => match Nat.ble (off + d.n) (q.get i.toNat).length && (isAggT d.k || Nat.beq d.n 1) with
        | true => match partSV ((q.get i.toNat).map SV.v) off d.n (isAggT d.k) with
          | some v => some (.val v, [.idx i q.len])
          | none => none
        | false => none
      | none => none
    | _, _ => none
  | .store t x y => match look lay t, opnd σ x, opnd σ y with
    | some d, some (.own g off), some v => match look m.blks g, cellsSV m v with
      | some (.blk ty cs), some vs => match Nat.beq vs.length d.n && Nat.ble (off + d.n) cs.length with
        | true => some (.sto g off ty cs vs, [])
        | false => none
      | _, _ => none
    | _, _, _ => none
  | .nilCheck x => match opnd σ x with
    | some (.own g off) => some (.val (.own g off), [])
    | some (.at s i off) => match look m.rds s with
      | some q => some (.val (.at s i off), [.idx i q.len])
      | none => none
    | some (.v (.pointer (some a))) => some (.val (.v (.pointer (some a))), [])
    | _ => none
  | .binOp op t x y _ => match opnd σ x, opnd σ y with
    | some a, some b => match evBin lay op t h.w a b with
      | some (v, obs) => some (.val v, obs)
      | none => none
    | _, _ => none
  | .unOp .not _ x => match opnd σ x with
    | some (.v (.bool b)) => some (.val (.v (.bool (!b))), [])
    | _ => none
  | .unOp .neg _ x => match opnd σ x with
    | some (.v (.int k a)) => some (.val (ar k h.w (0 - a)).1, (ar k h.w (0 - a)).2)
    | _ => none
  | .fieldAddr t x f => match look lay t, opnd σ x with
    | some ⟨.str fs, _, _, _, _⟩, some (.own g off) => match fs[f]? with
      | some (fo, fn, _) => match Nat.beq fn 0 with
        | false => some (.val (.own g (off + fo)), [])
        | true => none
      | none => none
    | some ⟨.str fs, _, _, _, _⟩, some (.at s i off) => match fs[f]?, look m.rds s with
      | some (fo, fn, _), some q => match Nat.beq fn 0 with
        | false => some (.val (.at s i (off + fo)), [.idx i q.len])
        | true => none
      | _, _ => none
    | _, _ => none
  | .field t x f => match look lay t, opnd σ x with
    | some ⟨.str fs, _, _, _, _⟩, some (.agg xs) => match fs[f]? with
      | some (fo, fn, ag) => match partSV xs fo fn ag with
        | some v => some (.val v, [])
        | none => none
      | none => none
    | _, _ => none
  | .indexAddr t x i => match look lay t, opnd σ x, opnd σ i with
    | some ⟨.sli _ es, _, _, _, _⟩, some (.sl s), some (.v (.int _ i)) => match look m.rds s with
      | some q => match Nat.beq es q.n with
        | true => some (.val (.at s i 0), [.idx i q.len])
        | false => none
      | none => none
    | _, _, _ => none
  | .extract x i => match opnd σ x with
    | some (.tup xs) => match xs[i]? with
      | some v => some (.val v, [])
      | none => none
    | _ => none
  | .convert src dst x => match look lay src, look lay dst, opnd σ x with
    | some ⟨.int _, _, _, _, _⟩, some ⟨.int k, _, _, _, _⟩, some (.v (.int _ a)) => some (.val (ar k h.w a).1, (ar k h.w a).2)
    | _, _, _ => none
  | .buildSlice t len ps => match Nat.beq len 0 && ps.toList.isEmpty with
    | true => match look lay t with
      | some ⟨.sli e _, _, _, _, _⟩ => some (.new e [] (.row h.g 0 0 0), [])
      | _ => none
    | false => match look lay t, opndsP σ ps.toList with
      | some ⟨.sli e es, _, _, _, _⟩, some qs => match look lay e, concatSV m es qs 0 with
        | some d, some cs => match Nat.beq qs.length len && Nat.beq d.n es && Nat.ble (len * es) 1000000 && !Nat.beq len 0 && !Nat.beq es 0 with
          | true => some (.new e cs (.row h.g 0 len len), [])
          | false => none
        | _, _ => none
      | _, _ => none
  | .slice t x lo hi mx => match mx with
    | none => match look lay t, opnd σ x with
      | some ⟨.sli _ es, _, _, _, _⟩, some (.sl s) => match look m.rds s with
        | some q => match boundSV σ lo 0, boundSV σ hi q.len with
          | some la, some lb => match Nat.beq es q.n with
            | true => some (.val (.sub s la.toNat lb.toNat), [.sub la lb q.len])
            | false => none
          | _, _ => none
        | none => none
      | _, _ => none
    | some _ => none
  | .makeFunc (.func f) first cap => match first.toList, opnds σ cap.toList with
    | [], some cs => some (.val (.fn f cs), [])
    | _, _ => none
  | .call ⟨.builtin .len, args, ts⟩ => match ts.toList, opnds σ args.toList with
    | [t], some [.sl s] => match look lay t, look m.rds s with
      | some ⟨.sli _ _, _, _, _, _⟩, some q => some (.val (.v (.int .i64 q.len)), [])
      | _, _ => none
    | [t], some [.gr k] => match look lay t, look m.grs k with
      | some ⟨.sli _ _, _, _, _, _⟩, some q => some (.val (.v (.int .i64 q.len)), [])
      | _, _ => none
    | [t], some [.v (.slice _ n _)] => match look lay t with
      | some ⟨.sli _ _, _, _, _, _⟩ => some (.val (.v (.int .i64 n)), [])
      | _ => none
    | [t], some [.row _ _ n _] => match look lay t with
      | some ⟨.sli _ _, _, _, _, _⟩ => some (.val (.v (.int .i64 n)), [])
      | _ => none
    | _, _ => none
  | .call ⟨.builtin .append, args, ts⟩ => match ts.toList, opnds σ args.toList with
    | [t, t'], some [.row g 0 0 0, .sl s] => match Nat.beq t t', look lay t, look m.rds s with
      | true, some ⟨.sli e es, _, _, _, _⟩, some q => match look lay e with
        | some d => match Nat.beq es q.n && Nat.beq d.n es with
          | true => some (.ext (.ltr h.g 0) (CopyOf q), [.app q d.by'])
          | false => none
        | none => none
      | _, _, _ => none
    | _, _ => none
  | .call ⟨.builtin .min, args, _⟩ => match opnds σ args.toList with
    | some (.v (.int .i64 a) :: r) => match mins2 a r with
      | some e => some (.val (.v (.int .i64 e)), [])
      | none => none
    | _ => none
  | .call ⟨.builtin .max, args, _⟩ => match opnds σ args.toList with
    | some (.v (.int .i64 a) :: r) => match maxs2 a r with
      | some e => some (.val (.v (.int .i64 e)), [])
      | none => none
    | _ => none
  | .call ⟨.value x, args, _⟩ => match opnd σ x, opnds σ args.toList with
    | some (.v (.func (.func f) first cap)), some vs => match first.toList with
      | [] => match h.hx with
        | none => some (.call f (vs ++ cap.toList.map SV.v) h.res, [.call (m.foot h.fp) f (vs ++ cap.toList.map SV.v) h.res])
        | some Φ => some (.callx f (vs ++ cap.toList.map SV.v) h.res Φ, [.callx (m.foot h.fp) h.g f (vs ++ cap.toList.map SV.v) h.res Φ])
      | _ => none
    | some (.fn f cap), some vs => match h.hx with
      | none => some (.call f (vs ++ cap) h.res, [.call (m.foot h.fp) f (vs ++ cap) h.res])
      | some Φ => some (.callx f (vs ++ cap) h.res Φ, [.callx (m.foot h.fp) h.g f (vs ++ cap) h.res Φ])
    | _, _ => none
  | _ => none
def evalOp (lay : Lay) (σ : List (Nat × SV)) (m : MState) (h : Hint) (op : Op) : Option (Out × List Ob) := match h.px with
  | some res => match opnds σ op.operands.toList with
    | some xs => match h.hx with
      | none => some (.val res, [.pure (m.foot h.fp) op xs res])
      | some Φ => some (.ext res Φ, [.ext h.g op xs res Φ])
    | none => none
  | none => match h.pf with
    | some (f, args) => match opnds σ op.operands.toList with
      | some xs => some (.call f args h.res, [.call (m.foot h.fp) f args h.res, .ent op xs f args])
      | none => none
    | none => evalOp0 lay σ m h op
end Go.Proofs.Ytlcccomdijdkaaa
namespace Go.Proofs.Ytlcccomdijdkaaa
open Go.RowKit

variable {P : Program} {E : Env} {w : World}


theorem add_plain' (b off n : Nat) : (⟨b, off, none⟩ : Addr).add n = ⟨b, off + n, none⟩ := by
  unfold Addr.add; split <;> simp_all
theorem vals_length (xs : List SV) : (SV.vals E xs).length = xs.length := by rw [SV.vals_map]; simp
theorem vals_append (xs ys : List SV) : SV.vals E (xs ++ ys) = SV.vals E xs ++ SV.vals E ys := by simp [SV.vals_map]
theorem vals_get (xs : List SV) (j : Nat) : (SV.vals E xs)[j]? = (xs[j]?).map (SV.val E) := by simp [SV.vals_map]
theorem vals_take (xs : List SV) (j : Nat) : SV.vals E (xs.take j) = (SV.vals E xs).take j := by simp [SV.vals_map, List.map_take]
theorem vals_drop (xs : List SV) (j : Nat) : SV.vals E (xs.drop j) = (SV.vals E xs).drop j := by simp [SV.vals_map, List.map_drop]
theorem vals_v (vs : List Value) : SV.vals E (vs.map SV.v) = vs := by
  rw [SV.vals_map, List.map_map]
  conv => rhs; rw [← List.map_id vs]
  apply List.map_congr_left
  intro x _
  rfl

/-- what grows is a slice, letters are of one cell -/
structure Nice (E : Env) (m : MState) : Prop where
  gr : ∀ k q, look m.grs k = some q → ∃ A n c, E.gr k = .slice A n c
  one : ∀ g i, (E.x g i).oneCell' = true
theorem oneB_ok {m : MState} (hg : Nice E m) {x : SV} (h : oneB m x = true) : (x.val E).oneCell' = true := by
  cases x with
  | v x => exact h
  | agg xs => cases h
  | tup xs => cases h
  | gd d want W x => cases h
  | gr k =>
    simp only [oneB, Option.isSome_iff_exists] at h
    obtain ⟨q, hq⟩ := h
    obtain ⟨A, n, c, e⟩ := hg.gr k q hq
    simp [SV.val, e, Value.oneCell']
  | ltr g i => exact hg.one g i
  | sub s a b => rfl
  | _ => simp [SV.val, Value.oneCell']
theorem cells_one {v : Value} (h : v.oneCell' = true) : v.cells = #[v] := by cases v <;> first | rfl | cases h
theorem cellsSV_ok {m : MState} (hg : Nice E m) {x : SV} {cs : List SV} (h : cellsSV m x = some cs) :
    (x.val E).cells = (SV.vals E cs).toArray ∧ ∀ v ∈ SV.vals E cs, v.oneCell' = true := by
  have one : ∀ y : SV, oneB m y = true → (y.val E).cells = (SV.vals E [y]).toArray ∧ ∀ v ∈ SV.vals E [y], v.oneCell' = true := fun y hy => by
    have := oneB_ok hg hy
    refine ⟨by rw [cells_one this]; simp [SV.vals], fun v hv => ?_⟩
    simp [SV.vals] at hv
    subst hv
    exact this
  cases x with
  | agg xs =>
    simp only [cellsSV] at h
    split at h
    · rename_i ha
      simp only [Option.some.injEq] at h
      subst h
      refine ⟨by simp [SV.val, Value.cells], fun v hv => ?_⟩
      rw [SV.vals_map] at hv
      obtain ⟨y, hy, rfl⟩ := List.mem_map.1 hv
      exact oneB_ok hg (List.all_eq_true.1 ha y hy)
    · cases h
  | _ =>
    simp only [cellsSV] at h
    split at h
    · rename_i ha
      simp only [Option.some.injEq] at h
      subst h
      exact one _ ha
    · cases h

theorem opnds_ok {σ : List (Nat × SV)} {ev : Operand → Value} : ∀ {xs : List Operand} {vs : List SV}, opnds σ xs = some vs → (∀ x ∈ xs, ∀ sv, opnd σ x = some sv → ev x = sv.val E) → xs.map ev = SV.vals E vs
  | [], vs, h, _ => by simp [opnds] at h; subst h; simp [SV.vals]
  | x :: xs, vs, h, hs => by
    simp only [opnds] at h
    cases h1 : opnd σ x with
    | none => rw [h1] at h; simp at h
    | some v =>
      cases h2 : opnds σ xs with
      | none => rw [h1, h2] at h; simp at h
      | some us =>
        rw [h1, h2] at h
        simp at h
        subst h
        simp [SV.vals, hs x (by simp) v h1, opnds_ok h2 (fun y hy => hs y (by simp [hy]))]
theorem opndsP_ok {σ : List (Nat × SV)} {ev : Operand → Value} : ∀ {xs : List (Nat × Operand)} {vs : List (Nat × SV)}, opndsP σ xs = some vs → (∀ x ∈ xs, ∀ sv, opnd σ x.2 = some sv → ev x.2 = sv.val E) → xs.map (fun (i, x) => (i, ev x)) = vs.map (fun (i, v) => (i, v.val E))
  | [], vs, h, _ => by simp [opndsP] at h; subst h; simp
  | (i, x) :: xs, vs, h, hs => by
    simp only [opndsP] at h
    cases h1 : opnd σ x with
    | none => rw [h1] at h; simp at h
    | some v =>
      cases h2 : opndsP σ xs with
      | none => rw [h1, h2] at h; simp at h
      | some us =>
        rw [h1, h2] at h
        simp at h
        subst h
        simp [hs (i, x) (by simp) v h1]
        simpa using opndsP_ok h2 (fun y hy => hs y (by simp [hy]))

theorem partSV_ok {t : TypeId} {d : TyD} {lay : Lay} (hl : LayOK P lay) (hd : look lay t = some d) {xs : List SV} {off : Nat} {v : SV} (h : partSV xs off d.n (isAggT d.k) = some v) :
    (part t (SV.vals E xs).toArray off).run P w = .ok (v.val E) w := by
  have ht := hl t d hd
  unfold part
  simp only [Sem.run_bind, ht.run_agg, Result.andThen_ok]
  cases ha : isAggT d.k with
  | true =>
    rw [ha] at h
    simp only [partSV, Option.some.injEq] at h
    subst h
    simp only [if_true, Sem.run_bind, ht.run_size, Result.andThen_ok]
    have : (SV.vals E xs).toArray.extract off (off + d.n) = (SV.vals E ((xs.drop off).take d.n)).toArray := by
      apply Array.ext'
      simp [vals_take, vals_drop, List.take_drop]
    rw [this]
    rfl
  | false =>
    rw [ha] at h
    simp only [partSV] at h
    have : (SV.vals E xs).toArray[off]? = some (v.val E) := by simp [vals_get, h]
    simp [this, go_sem]

def touches0 (σ : List (Nat × SV)) (h : Hint) : Op → List Nat
  | .load _ x => match opnd σ x with | some (.own g _) => [g] | _ => []
  | .store _ x _ => match opnd σ x with | some (.own g _) => [g] | _ => []
  | .call ⟨.value _, _, _⟩ => h.fp
  | _ => []
def touches (σ : List (Nat × SV)) (h : Hint) (op : Op) : List Nat := match h.px, h.pf with
  | none, none => touches0 σ h op
  | _, _ => h.fp
theorem touches_px {σ : List (Nat × SV)} {h : Hint} {op : Op} {res : SV} (e : h.px = some res) : touches σ h op = h.fp := by unfold touches; rw [e]
theorem touches_pf {σ : List (Nat × SV)} {h : Hint} {op : Op} {y : Nat × List SV} (e : h.pf = some y) : touches σ h op = h.fp := by
  unfold touches; rw [e]; cases h.px <;> rfl
theorem touches_some {σ : List (Nat × SV)} {h : Hint} {op : Op} (e : h.px.isSome = true) : touches σ h op = h.fp := by
  obtain ⟨r, hr⟩ := Option.isSome_iff_exists.1 e; exact touches_px hr
theorem touches_0 {σ : List (Nat × SV)} {h : Hint} {op : Op} (e : h.px = none) (e' : h.pf = none) : touches σ h op = touches0 σ h op := by unfold touches; rw [e, e']
theorem evalOp_cases {lay : Lay} {σ : List (Nat × SV)} {m : MState} {h : Hint} {op : Op} {out : Out} {obs : List Ob} (he : evalOp lay σ m h op = some (out, obs)) :
    (∃ res xs, h.px = some res ∧ opnds σ op.operands.toList = some xs ∧ ((h.hx = none ∧ out = .val res ∧ obs = [.pure (m.foot h.fp) op xs res]) ∨ ∃ Φ, h.hx = some Φ ∧ out = .ext res Φ ∧ obs = [.ext h.g op xs res Φ])) ∨
    (∃ f args xs, h.pf = some (f, args) ∧ opnds σ op.operands.toList = some xs ∧ out = .call f args h.res ∧ obs = [.call (m.foot h.fp) f args h.res, .ent op xs f args]) ∨
    (h.px = none ∧ h.pf = none ∧ evalOp0 lay σ m h op = some (out, obs)) := by
  unfold evalOp at he
  cases e1 : h.px with
  | some res =>
    rw [e1] at he
    simp only at he
    cases e2 : opnds σ op.operands.toList with
    | none => rw [e2] at he; cases he
    | some xs =>
      rw [e2] at he
      simp only at he
      cases e3 : h.hx with
      | none =>
        rw [e3] at he
        simp only [Option.some.injEq, Prod.mk.injEq] at he
        exact .inl ⟨res, xs, rfl, rfl, .inl ⟨rfl, he.1.symm, he.2.symm⟩⟩
      | some Φ =>
        rw [e3] at he
        simp only [Option.some.injEq, Prod.mk.injEq] at he
        exact .inl ⟨res, xs, rfl, rfl, .inr ⟨Φ, rfl, he.1.symm, he.2.symm⟩⟩
  | none =>
    rw [e1] at he
    simp only at he
    cases e2 : h.pf with
    | some y =>
      obtain ⟨f, args⟩ := y
      rw [e2] at he
      simp only at he
      cases e3 : opnds σ op.operands.toList with
      | none => rw [e3] at he; cases he
      | some xs =>
        rw [e3] at he
        simp only [Option.some.injEq, Prod.mk.injEq] at he
        exact .inr (.inl ⟨f, args, xs, rfl, rfl, he.1.symm, he.2.symm⟩)
    | none =>
      rw [e2] at he
      exact .inr (.inr ⟨rfl, rfl, he⟩)
end Go.Proofs.Ytlcccomdijdkaaa
namespace Go.Proofs.Ytlcccomdijdkaaa
open Go.RowKit

variable {P : Program} {E : Env} {w : World}

/-- what an operation does, in the world's terms -/
def DoesOut (P : Program) (E : Env) (g : Nat) (w : World) (r : Result Next) : Out → Prop
  | .val sv => r = .ok (.value (sv.val E)) w
  | .new t cs sv => ∃ v, r = .ok (.value v) (w.alloc (.cells (SV.vals E cs).toArray t)) ∧ ∀ E' : Env, E'.ρ g = w.heap.size → sv.val E' = v
  | .sto g off _ cs xs => r = .ok .skip (w.setRow (E.ρ g) ((SV.vals E cs).take off ++ SV.vals E xs ++ (SV.vals E cs).drop (off + xs.length)).toArray)
  | .ext res Φ => ∃ v w', r = .ok (.value (res.val (E.updX g v))) w' ∧ Below w.heap.size w w' ∧ (∀ i, (v i).oneCell' = true) ∧ HeldIn (fun k => w.heap.size ≤ k) w' (Φ v)
  | .callx f args _ _ => EntersOK P f → r = .ok (.enter f (SV.vals E args).toArray) w
  | .call f args _ => EntersOK P f → r = .ok (.enter f (SV.vals E args).toArray) w

/-- what is known of the memory that an operation looks at -/
structure Known (E : Env) (w : World) (m : MState) (T : List Nat) : Prop where
  blk : ∀ g ∈ T, ∀ t cs, look m.blks g = some (.blk t cs) → Blk w (E.ρ g) t (SV.vals E cs).toArray
  rd : ∀ s q, look m.rds s = some q → RdAt w q (E.sl s)
  gr : ∀ k q, look m.grs k = some q → ∃ B, GrAt w B q (E.gr k)
  one : ∀ g i, (E.x g i).oneCell' = true

theorem gr_slice {B : Nat} {q : GQ} {v : Value} (h : GrAt w B q v) : ∃ A cap, v = .slice A q.len cap := by
  rcases h.2 with ⟨h1, h2⟩ | ⟨g, cap, cur, h1, _⟩
  · exact ⟨none, 0, by rw [h1, h2]⟩
  · exact ⟨_, cap, h1⟩
theorem one_of (xs : List SV) : (SV.vals E xs).toArray = (xs.map (SV.val E)).toArray := by rw [SV.vals_map]

theorem run_load_cells {t : TypeId} {d : TyD} {lay : Lay} (hl : LayOK P lay) (hd : look lay t = some d) {b ao off : Nat} {cs : List SV} {v : SV}
    (hc : ∀ j x, ((cs.drop off).take d.n)[j]? = some x → w.cell? ⟨b, ao + j, none⟩ = some (x.val E)) (hn : off + d.n ≤ cs.length) (h1 : isAggT d.k = true ∨ d.n = 1) (h : partSV cs off d.n (isAggT d.k) = some v) :
    (Instr.loadAt t (.pointer (some ⟨b, ao, none⟩))).run P w = .ok (v.val E) w := by
  have ht := hl t d hd
  have hlen : ((cs.drop off).take d.n).length = d.n := by simp; omega
  unfold Instr.loadAt loadVar
  simp only [Instr.sureAddr, Sem.run_bind, Sem.run_pure, Result.andThen_ok, ht.run_agg]
  cases ha : isAggT d.k with
  | true =>
    rw [ha] at h
    simp only [partSV, Option.some.injEq] at h
    subst h
    have := run_loadCells_list (P := P) w ⟨b, ao, none⟩ (SV.vals E ((cs.drop off).take d.n)) (fun j x hx => by
      rw [vals_get] at hx
      cases hx' : ((cs.drop off).take d.n)[j]? with
      | none => rw [hx'] at hx; simp at hx
      | some y => rw [hx'] at hx; simp at hx; rw [add_plain', hc j y hx', hx])
    rw [vals_length, hlen] at this
    simp only [if_true, Sem.run_bind, ht.run_size, Result.andThen_ok, this, Sem.run_pure, SV.val]
  | false =>
    rw [ha] at h
    simp only [partSV] at h
    have hn1 : d.n = 1 := by rcases h1 with h1 | h1; (rw [ha] at h1; cases h1); exact h1
    have h0 := hc 0 v (by rw [hn1]; simp [h])
    simp only [Bool.false_eq_true, if_false]
    rw [run_load]
    simp only [Nat.add_zero] at h0
    rw [h0]


theorem set_row (off : Nat) : ∀ (vs : List Value) (k : Nat) (cs : List Value), off + k + vs.length ≤ cs.length →
    (vs.zipIdx k).foldl (fun (a : Array Value) (x : Value × Nat) => a.setIfInBounds (off + x.2) x.1) cs.toArray = (cs.take (off + k) ++ vs ++ cs.drop (off + k + vs.length)).toArray
  | [], k, cs, _ => by simp
  | v :: vs, k, cs, h => by
    simp only [List.length_cons] at h
    simp only [List.zipIdx_cons, List.foldl_cons]
    have e : (cs.toArray).setIfInBounds (off + k) v = (cs.set (off + k) v).toArray := by simp
    rw [e, set_row off vs (k + 1) (cs.set (off + k) v) (by simp; omega)]
    congr 1
    have h1 : (cs.set (off + k) v).take (off + (k + 1)) = cs.take (off + k) ++ [v] := by
      rw [show off + (k + 1) = off + k + 1 by omega, List.take_add_one]
      rw [List.take_set_of_le (by omega)]
      rw [List.getElem?_set_self (by omega)]
      rfl
    have h2 : (cs.set (off + k) v).drop (off + (k + 1) + vs.length) = cs.drop (off + k + (v :: vs).length) := by
      rw [List.drop_set_of_lt (by omega)]
      congr 1
      simp; omega
    rw [h1, h2]
    simp

theorem fill_ok {m : MState} {fs : List (Nat × Nat × Bool)} (hg : Nice E m) {place : Nat → Option (Nat × Nat)} (hp : ∀ i o n b, fs[i]? = some (o, n, b) → place i = some (o, n)) :
    ∀ (ps : List (Nat × SV)) (cells cs : List SV), fillSV m fs cells ps = some cs → Instr.fill place (SV.vals E cells).toArray (ps.map fun (i, v) => (i, v.val E)) = some (SV.vals E cs).toArray
  | [], cells, cs, h => by simp [fillSV] at h; subst h; simp [Instr.fill]
  | (i, v) :: rest, cells, cs, h => by
    simp only [fillSV] at h
    cases hf : fs[i]? with
    | none => rw [hf] at h; simp at h
    | some x =>
      obtain ⟨off, size, ag⟩ := x
      cases hc : cellsSV m v with
      | none => rw [hf, hc] at h; simp at h
      | some vs =>
        rw [hf, hc] at h
        simp only at h
        split at h
        · rename_i hb
          simp only [Bool.and_eq_true, Nat.beq_eq, Nat.ble_eq] at hb
          obtain ⟨h1, h2⟩ := hb
          obtain ⟨e1, _⟩ := cellsSV_ok hg hc
          have ih := fill_ok hg hp rest _ _ h
          simp only [List.map_cons, Instr.fill, hp i _ _ _ hf, e1]
          rw [if_neg (by simp [vals_length, h1]; omega)]
          rw [← ih]
          congr 1
          rw [← Array.foldl_toList, Array.toList_zipIdx]
          have := set_row off (SV.vals E vs) 0 (SV.vals E cells) (by simp [vals_length]; omega)
          simp only [Nat.add_zero] at this
          rw [this]
          simp [vals_append, vals_take, vals_drop, vals_length, h1]
        · cases h

theorem concat_len {m : MState} : ∀ (qs : List (Nat × SV)) (j n : Nat) (cs : List SV), concatSV m n qs j = some cs → cs.length = qs.length * n
  | [], j, n, cs, h => by simp [concatSV] at h; subst h; simp
  | (i, v) :: r, j, n, cs, h => by
    simp only [concatSV] at h
    split at h
    · rename_i vs rr h1 h2 h3
      split at h
      · rename_i h4
        simp only [Option.some.injEq] at h
        subst h
        have := concat_len r (j + 1) n rr h3
        have h4 := Nat.eq_of_beq_eq_true h4
        simp [this, h4, Nat.add_mul]
        omega
      · cases h
    · cases h
theorem concat_fill {m : MState} (hg : Nice E m) : ∀ (qs : List (Nat × SV)) (j : Nat) (cs : List SV) (n : Nat) (cells : Array Value), concatSV m n qs j = some cs → (j + qs.length) * n ≤ cells.size →
    Instr.fill (fun i => some (i * n, n)) cells (qs.map fun (i, v) => (i, v.val E)) = some (cells.toList.take (j * n) ++ SV.vals E cs ++ cells.toList.drop ((j + qs.length) * n)).toArray
  | [], j, cs, n, cells, h, _ => by
    simp [concatSV] at h
    subst h
    simp [Instr.fill, SV.vals]
  | (i, v) :: r, j, cs, n, cells, h, hsz => by
    simp only [concatSV] at h
    split at h
    · rename_i vs rr h1 h2 h3
      split at h
      · rename_i h4
        simp only [Option.some.injEq] at h
        subst h
        have h1 := Nat.eq_of_beq_eq_true h1
        subst h1
        have h4 := Nat.eq_of_beq_eq_true h4
        obtain ⟨e1, _⟩ := cellsSV_ok hg h2
        simp only [List.length_cons] at hsz
        have hmul : (i + (r.length + 1)) * n = i * n + n + r.length * n := by rw [Nat.add_mul, Nat.add_mul]; omega
        simp only [List.map_cons, Instr.fill, e1]
        rw [if_neg (by simp [vals_length, h4]; omega)]
        rw [← Array.foldl_toList, Array.toList_zipIdx]
        have hset := set_row (i * n) (SV.vals E vs) 0 cells.toList (by simp [vals_length, h4]; omega)
        simp only [Nat.add_zero, Array.toArray_toList] at hset
        rw [hset]
        rw [concat_fill hg r (i + 1) rr n _ h3 (by simp [vals_length, h4, Nat.add_mul]; omega)]
        congr 2
        have hi : (i + 1) * n = i * n + n := by rw [Nat.add_mul]; omega
        have hlen : (cells.toList.take (i * n) ++ SV.vals E vs).length = i * n + n := by simp [vals_length, h4]; omega
        simp only [List.length_cons]
        rw [hi, show (i + 1 + r.length) * n = i * n + n + r.length * n from by rw [Nat.add_mul, Nat.add_mul]; omega, hmul]
        rw [List.take_append_of_le_length (by rw [hlen]; exact Nat.le_refl _), List.take_of_length_le (by rw [hlen]; exact Nat.le_refl _)]
        rw [List.drop_append, List.drop_of_length_le (by rw [hlen]; omega), hlen, vals_append, vals_length, h4]
        rw [List.drop_drop]
        simp only [List.nil_append, List.append_assoc]
        congr 3
        congr 1
        omega
      · cases h
    · cases h

theorem run_mapM_places (fs : Array Field) (h : ∀ x ∈ fs.toList, knownB P x.type = true) :
    (fs.mapM fun f => (do pure (f.offset, ← sizeOf f.type) : Sem (Nat × Nat))).run P w = .ok (fs.map fun f => (f.offset, P.cellsOf f.type)) w := by
  have : ∀ (l : List Field), (∀ x ∈ l, knownB P x.type = true) → (l.mapM fun f => (do pure (f.offset, ← sizeOf f.type) : Sem (Nat × Nat))).run P w = .ok (l.map fun f => (f.offset, P.cellsOf f.type)) w := by
    intro l
    induction l with
    | nil => intro _; simp [List.mapM_nil, Sem.run_pure]
    | cons x l ih =>
      intro hl
      rw [List.mapM_cons]
      simp only [Sem.run_bind, (hl x (by simp) |> fun h => knownB.run_size h w), Result.andThen_ok, Sem.run_pure, ih (fun y hy => hl y (by simp [hy])), List.map_cons]
  rw [Array.mapM_eq_mapM_toList]
  have h1 := this fs.toList h
  show ((do pure (List.toArray (← fs.toList.mapM _))) : Sem (Array (Nat × Nat))).run P w = _
  simp only [Sem.run_bind, h1, Result.andThen_ok, Sem.run_pure]
  congr 1
  apply Array.ext'
  simp
end Go.Proofs.Ytlcccomdijdkaaa
namespace Go.Proofs.Ytlcccomdijdkaaa
open Go.RowKit

variable {P : Program} {E : Env} {w : World}

theorem minInt (a b : Int) : (if b < a then b else a) = min a b := by omega
theorem maxInt (a b : Int) : (if a < b then b else a) = max a b := by omega
theorem run_mins2 : ∀ (r : List SV) (a e : Int), mins2 a r = some e → ((SV.vals E r).foldlM Builtin.min2 (Value.int .i64 a)).run P w = .ok (.int .i64 e) w
  | [], a, e, h => by simp [mins2] at h; subst h; simp [SV.vals, Sem.run_pure]
  | x :: r, a, e, h => by
    cases x with
    | v x =>
      cases x with
      | int k b =>
        cases k <;> simp [mins2] at h
        have ih := run_mins2 r _ _ h
        simp only [SV.vals, SV.val, List.foldlM_cons, Sem.run_bind, Builtin.min2, Sem.run_pure, Result.andThen_ok]
        rw [minInt]
        exact ih
      | _ => simp [mins2] at h
    | _ => simp [mins2] at h
theorem run_maxs2 : ∀ (r : List SV) (a e : Int), maxs2 a r = some e → ((SV.vals E r).foldlM Builtin.max2 (Value.int .i64 a)).run P w = .ok (.int .i64 e) w
  | [], a, e, h => by simp [maxs2] at h; subst h; simp [SV.vals, Sem.run_pure]
  | x :: r, a, e, h => by
    cases x with
    | v x =>
      cases x with
      | int k b =>
        cases k <;> simp [maxs2] at h
        have ih := run_maxs2 r _ _ h
        simp only [SV.vals, SV.val, List.foldlM_cons, Sem.run_bind, Builtin.max2, Sem.run_pure, Result.andThen_ok]
        rw [show (if b > a then b else a) = max a b from by omega]
        exact ih
      | _ => simp [maxs2] at h
    | _ => simp [maxs2] at h

theorem run_evInt {op : BinOp} {k : IntKind} {wr : Bool} {a b : Int} {v : SV} {obs : List Ob} {B : Nat} {t : TypeId} {x y : Operand} (h : evInt op k wr a b = some (v, obs)) (ho : AllOb P B obs) :
    ((do eqGuard op t x y (.int k a) (.int k b); binOp op t (.int k a) (.int k b) : Sem Value)).run P w = .ok (v.val E) w := by
  have hg : (eqGuard op t x y (.int k a) (.int k b)).run P w = .ok () w := by
    unfold eqGuard
    split <;> simp [Sem.run_pure]
  simp only [Sem.run_bind, hg, Result.andThen_ok]
  cases op <;> simp only [evInt, Option.some.injEq, Prod.mk.injEq, reduceCtorEq] at h <;> simp only [binOp, ne_eq, not_true_eq_false, if_false, Op.intArith, Op.intCmp]
  case add => cases wr <;> simp [ar] at h <;> obtain ⟨rfl, rfl⟩ := h <;> simp [AllOb, Ob.holds] at ho <;> simp [Sem.run_pure, SV.val, ho]
  case sub => cases wr <;> simp [ar] at h <;> obtain ⟨rfl, rfl⟩ := h <;> simp [AllOb, Ob.holds] at ho <;> simp [Sem.run_pure, SV.val, ho]
  case mul => cases wr <;> simp [ar] at h <;> obtain ⟨rfl, rfl⟩ := h <;> simp [AllOb, Ob.holds] at ho <;> simp [Sem.run_pure, SV.val, ho]
  case quo => cases wr <;> simp [ar] at h <;> obtain ⟨rfl, rfl⟩ := h <;> simp [AllOb, Ob.holds] at ho <;> simp [Op.intDiv, Sem.run_pure, SV.val, ho]
  case rem => obtain ⟨rfl, rfl⟩ := h; simp [AllOb, Ob.holds] at ho; simp [Op.intDiv, Sem.run_pure, SV.val, ho]
  case and => obtain ⟨rfl, rfl⟩ := h; rw [intBits_and]; simp [Sem.run_pure, SV.val]
  case or => obtain ⟨rfl, rfl⟩ := h; rw [intBits_or]; simp [Sem.run_pure, SV.val]
  case xor => obtain ⟨rfl, rfl⟩ := h; rw [intBits_xor]; simp [Sem.run_pure, SV.val]
  case andNot => obtain ⟨rfl, rfl⟩ := h; rw [intBits_andNot]; simp [Sem.run_pure, SV.val]
  all_goals (obtain ⟨rfl, rfl⟩ := h; simp [Sem.run_pure, SV.val])

theorem intsSV_ok : ∀ {xs : List SV} {l : List Int}, intsSV xs = some l → SV.vals E xs = l.map (Value.int .i64)
  | [], l, h => by simp [intsSV] at h; subst h; simp [SV.vals]
  | x :: xs, l, h => by
    cases x with
    | v x =>
      cases x with
      | int k a =>
        cases k <;> simp only [intsSV, reduceCtorEq] at h
        cases hr : intsSV xs with
        | none => rw [hr] at h; simp at h
        | some l' =>
          rw [hr] at h
          simp at h
          subst h
          simp [SV.vals, SV.val, intsSV_ok hr]
      | _ => simp [intsSV] at h
    | _ => simp [intsSV] at h

theorem run_evBin {lay : Lay} (hl : LayOK P lay) {op : BinOp} {t : TypeId} {wr : Bool} {a b v : SV} {obs : List Ob} {B : Nat} {x y : Operand} (h : evBin lay op t wr a b = some (v, obs)) (ho : AllOb P B obs) :
    ((do eqGuard op t x y (a.val E) (b.val E); binOp op t (a.val E) (b.val E) : Sem Value)).run P w = .ok (v.val E) w := by
  cases a with
  | v a =>
    cases b with
    | v b =>
      cases a <;> cases b <;> simp only [evBin, reduceCtorEq] at h
      case bool.bool p q =>
        have key : ∀ d, look lay t = some d → d.k = .boo → (eqGuard op t x y (.bool p) (.bool q)).run P w = .ok () w ∧ (Op.equal t (.bool p) (.bool q)).run P w = .ok (p == q) w := fun d hd hk => by
          have hu := (hl t d hd).under
          rw [hk] at hu
          obtain ⟨u, hu, rfl⟩ := hu
          refine ⟨?_, run_equalIn_bool w _ t p q hu⟩
          unfold eqGuard
          split <;> simp [Sem.run_pure]
        split at h
        · rename_i d hd
          split at h
          · rename_i hk
            obtain ⟨k1, k2⟩ := key d hd (of_decide_eq_true hk)
            simp only [Option.some.injEq, Prod.mk.injEq] at h
            obtain ⟨rfl, rfl⟩ := h
            simp only [SV.val, Sem.run_bind, k1, Result.andThen_ok, binOp, k2, Sem.run_pure]
          · cases h
        · rename_i d hd
          split at h
          · rename_i hk
            obtain ⟨k1, k2⟩ := key d hd (of_decide_eq_true hk)
            simp only [Option.some.injEq, Prod.mk.injEq] at h
            obtain ⟨rfl, rfl⟩ := h
            simp only [SV.val, Sem.run_bind, k1, Result.andThen_ok, binOp, k2, Sem.run_pure]
          · cases h
        · cases h
      case int.int =>
        split at h
        · rename_i hk
          have hk := of_decide_eq_true hk
          subst hk
          exact run_evInt h ho
        · cases h
    | _ => cases a <;> simp [evBin] at h
  | agg xs =>
    cases b with
    | agg ys =>
      simp only [evBin] at h
      have key : ∀ (d : TyD) (as bs : List Int), look lay t = some d → intsSV xs = some as → intsSV ys = some bs → (d.eq && Nat.beq as.length d.n && Nat.beq bs.length d.n) = true →
          (eqGuard op t x y ((SV.agg xs).val E) ((SV.agg ys).val E)).run P w = .ok () w ∧ (Op.equal t ((SV.agg xs).val E) ((SV.agg ys).val E)).run P w = .ok (eqL as bs) w := fun d as bs hd ha hb hc => by
        simp only [Bool.and_eq_true, Nat.beq_eq] at hc
        obtain ⟨⟨c1, c2⟩, c3⟩ := hc
        obtain ⟨e1, e2⟩ := (hl t d hd).eq c1 as bs w c2 c3
        simp only [SV.val, intsSV_ok ha, intsSV_ok hb]
        refine ⟨?_, e1⟩
        clear h
        cases op <;> simp [eqGuard, program, Sem.run, e2, Result.andThen, go_sem]
      split at h
      · rename_i d as bs hd ha hb
        split at h
        · rename_i hc
          obtain ⟨k1, k2⟩ := key d as bs hd ha hb hc
          simp only [Option.some.injEq, Prod.mk.injEq] at h
          obtain ⟨rfl, rfl⟩ := h
          simp only [Sem.run_bind, k1, Result.andThen_ok]
          simp only [SV.val] at k2 ⊢
          simp only [binOp, Sem.run_bind, k2, Result.andThen_ok, Sem.run_pure]
        · cases h
      · rename_i d as bs hd ha hb
        split at h
        · rename_i hc
          obtain ⟨k1, k2⟩ := key d as bs hd ha hb hc
          simp only [Option.some.injEq, Prod.mk.injEq] at h
          obtain ⟨rfl, rfl⟩ := h
          simp only [Sem.run_bind, k1, Result.andThen_ok]
          simp only [SV.val] at k2 ⊢
          simp only [binOp, Sem.run_bind, k2, Result.andThen_ok, Sem.run_pure]
        · cases h
      · cases h
    | _ => simp [evBin] at h
  | _ => simp [evBin] at h
end Go.Proofs.Ytlcccomdijdkaaa
namespace Go.Proofs.Ytlcccomdijdkaaa
open Go.RowKit

variable {P : Program} {E : Env} {w : World}
theorem rows_len {f : Nat → List Value} {n : Nat} (hf : ∀ i, (f i).length = n) : ∀ len : Nat, ((List.range len).flatMap f).length = len * n
  | 0 => by simp
  | len + 1 => by
    rw [List.range_succ, List.flatMap_append, List.length_append, rows_len hf len]
    simp [hf, Nat.add_mul]
theorem rows_find {f : Nat → List Value} {n : Nat} (hf : ∀ i, (f i).length = n) : ∀ (len j : Nat) (v : Value), ((List.range len).flatMap f)[j]? = some v → ∃ i r, i < len ∧ j = i * n + r ∧ (f i)[r]? = some v
  | 0, j, v, h => by simp at h
  | len + 1, j, v, h => by
    rw [List.range_succ, List.flatMap_append] at h
    by_cases hj : j < ((List.range len).flatMap f).length
    · rw [List.getElem?_append_left hj] at h
      obtain ⟨i, r, h1, h2, h3⟩ := rows_find hf len j v h
      exact ⟨i, r, by omega, h2, h3⟩
    · rw [List.getElem?_append_right (by omega)] at h
      rw [rows_len hf] at h hj
      exact ⟨len, j - len * n, by omega, by omega, by simpa using h⟩
theorem rows_get {f : Nat → List Value} {n : Nat} (hf : ∀ i, (f i).length = n) : ∀ (len i : Nat), i < len → ∀ (j : Nat) (v : Value), (f i)[j]? = some v → ((List.range len).flatMap f)[i * n + j]? = some v
  | 0, i, h => by omega
  | len + 1, i, h => fun j v hv => by
    have hjn : j < n := by have := (List.getElem?_eq_some_iff.1 hv).1; rwa [hf] at this
    rw [List.range_succ, List.flatMap_append]
    by_cases hi : i < len
    · have hlt : i * n + j < ((List.range len).flatMap f).length := by
        rw [rows_len hf]
        have := Nat.mul_le_mul_right n (show i + 1 ≤ len by omega)
        rw [Nat.add_mul] at this
        omega
      rw [List.getElem?_append_left hlt]
      exact rows_get hf len i hi j v hv
    · have e : i = len := by omega
      subst e
      rw [List.getElem?_append_right (by rw [rows_len hf]; omega), rows_len hf]
      simpa using hv
/-- a slice of no length, wherever it lies, is all that is appended -/
theorem append_zero {t ty e : TypeId} {i : TypeInfo} (hu : P.underlying t = some (.slice e)) (hi : P.info? e = some i) (b : Addr) (A : Option Addr) (c : Nat) : (Builtin.append_ #[t, t] ty #[.slice (some b) 0 0, .slice A 0 c]).run P w = .ok (.slice (some b) 0 0) w := by
  cases A <;> simp [Builtin.append_, run_underlying hu, sizeOf, typeInfo, hi, Builtin.lenOf, Builtin.firstCells, loadCells, loadCellsFrom, storeCells]
theorem append_copy {t ty e : TypeId} {i : TypeInfo} {z : Value} (hu : P.underlying t = some (.slice e)) (hi : P.info? e = some i) (hz : i.zero = some z) (b : Addr) (q : Q) (r : RS) (hr : RdAt w q r) (hsz : i.size = q.n) (hq : ∀ j, (q.get j).length = q.n ∧ ∀ v ∈ q.get j, v.oneCell' = true) (h1 : q.len ≤ 4611686018427387904) (h2 : q.len * i.bytes ≤ 140737488355328) :
    ∃ v' w', (Builtin.append_ #[t, t] ty #[.slice (some b) 0 0, .slice r.A r.len r.cap]).run P w = .ok v' w' ∧ Below w.heap.size w w' ∧ v'.oneCell' = true ∧ HeldIn (fun k => w.heap.size ≤ k) w' (CopyOf q fun _ => v') := by
  obtain ⟨r1, r2, r3, r4⟩ := hr
  rw [r1]
  rcases Nat.eq_zero_or_pos q.len with h0 | h0
  · refine ⟨.slice (some b) 0 0, w, ?_, Below.refl _ _, rfl, fun _ => False, fun k hk => hk.elim, fun w' _ => ⟨some b, 0, by rw [h0], rfl, rfl, by omega, fun h => absurd h (by omega)⟩⟩
    rw [h0]
    exact append_zero hu hi b r.A r.cap
  · obtain ⟨bl, off, hA, hlt, hc⟩ := r4 h0
    obtain ⟨news, hn⟩ : ∃ news, news = (List.range q.len).flatMap q.get := ⟨_, rfl⟩
    have hf : ∀ j, (q.get j).length = q.n := fun j => (hq j).1
    have hl : news.length = q.len * i.size := by rw [hn, rows_len hf, hsz]
    have hnews : ∀ j u, news[j]? = some u → w.cell? ((⟨bl, off, none⟩ : Addr).add j) = some u := fun j u hj => by
      rw [hn] at hj
      obtain ⟨k, s, k1, k2, k3⟩ := rows_find hf q.len j u hj
      rw [add_plain', k2]
      exact hc k k1 s u k3
    have hrun := run_append_grow (P := P) w t ty e i z hu hi hz b 0 0 [] (by simp) (fun j v h => by simp at h) ⟨bl, off, none⟩ q.len r.cap news hl hnews (by omega) (by omega) (growslice_fits (by omega) (by rw [Nat.zero_add]; exact h2))
    rw [← hA] at hrun
    have hge := grownCap_ge w (0 + q.len) 0 e
    refine ⟨_, _, hrun, (Below.refl _ _).drew.alloc (Nat.le_refl _) _, rfl, fun k => k = w.heap.size, fun k hk => by subst hk; exact ⟨by simp, Nat.le_refl _⟩, fun w' hw => ?_⟩
    refine ⟨some ⟨w.heap.size, 0, none⟩, grownCap w (0 + q.len) 0 e, by rw [Nat.zero_add], rfl, rfl, by dsimp only; omega, fun _ => ⟨w.heap.size, 0, rfl, ?_, fun k hk j v hv => ?_⟩⟩
    · have hb : w'.heap[w.heap.size]? = _ := (hw _ rfl).trans (heap_alloc_new w.drew _)
      exact (Array.getElem?_eq_some_iff.1 hb).1
    · have hb : w'.heap[w.heap.size]? = _ := (hw _ rfl).trans (heap_alloc_new w.drew _)
      have hB : Blk w' w.heap.size e _ := hb
      rw [hB.cell, Nat.zero_add]
      have h3 := rows_get hf q.len k hk j v hv
      rw [← hn] at h3
      have hlt2 := (List.getElem?_eq_some_iff.1 h3).1
      rw [Array.getElem?_append_left (by simpa using hlt2)]
      simpa using h3
end Go.Proofs.Ytlcccomdijdkaaa
namespace Go.Proofs.Ytlcccomdijdkaaa
open Go.RowKit

variable {P : Program} {E : Env} {w : World}

theorem run_v {o : Oper} {ρ : Operand → Value} {s : Sem Value} {v : Value} {w' : World} (h : execOp ρ o = (do pure (.value (← s)))) (hs : s.run P w = .ok v w') : (execOp ρ o).run P w = .ok (.value v) w' := by
  rw [h]
  simp [hs, Result.andThen]

theorem projSV_ok {d : Nat} {want p : Bool} {x y : SV} {obs : List Ob} {B : Nat} (h : projSV d want p x = (y, obs)) (ho : AllOb P B obs) (hp : p = true) : x.val E = y.val E := by
  cases x with
  | gd d' want' W x =>
    simp only [projSV] at h
    split at h <;> simp only [Prod.mk.injEq] at h <;> obtain ⟨rfl, rfl⟩ := h
    · have := ho.1 hp
      simp [SV.val, this]
    · have := ho.1 hp
      simp [SV.val, this]
    · rfl
  | _ => simp only [projSV, Prod.mk.injEq] at h; obtain ⟨rfl, rfl⟩ := h; rfl
theorem pickSV_ok {d : Nat} {p : Bool} {x y v : SV} {obs : List Ob} {B : Nat} (h : pickSV d p x y = some (v, obs)) (ho : AllOb P B obs) : (if p = true then x.val E else y.val E) = v.val E := by
  unfold pickSV at h
  split at h
  · rename_i u o1 v' o2 h1 h2
    simp only [Option.some.injEq, Prod.mk.injEq] at h
    obtain ⟨rfl, rfl⟩ := h
    obtain ⟨ho1, ho2⟩ := AllOb.append ho
    cases p with
    | true => simp [projSV_ok (E := E) h1 ho1 rfl, SV.val]
    | false => simp [projSV_ok (E := E) h2 ho2 rfl, SV.val]
  · cases h
theorem at_val {s : Nat} {i : Int} {off b o : Nat} (hA : (E.sl s).A = some ⟨b, o, none⟩) : (SV.at s i off).val E = .pointer (some ⟨b, o + (i.toNat * (E.sl s).n + off), none⟩) := by
  simp [SV.val, hA]
theorem rd_at {q : Q} {r : RS} (h : RdAt w q r) {i : Int} (hi : 0 ≤ i ∧ i < q.len) : ∃ b off, r.A = some ⟨b, off, none⟩ ∧ b < w.heap.size ∧ r.n = q.n ∧ ∀ j v, (q.get i.toNat)[j]? = some v → w.cell? ⟨b, off + (i.toNat * q.n + j), none⟩ = some v := by
  obtain ⟨_, h1, _, h2⟩ := h
  obtain ⟨b, off, h3, h4, h5⟩ := h2 (by omega)
  exact ⟨b, off, h3, h4, h1, h5 _ (by omega)⟩

theorem run_fieldAt {t : TypeId} {d : TyD} {lay : Lay} (hl : LayOK P lay) (hd : look lay t = some d) {fs : List (Nat × Nat × Bool)} (hk : d.k = .str fs) {f fo fn : Nat} {ag : Bool} (hf : fs[f]? = some (fo, fn, ag)) (hn : fn ≠ 0) (b off : Nat) :
    (Instr.fieldAt t (.pointer (some ⟨b, off, none⟩)) f).run P w = .ok (.pointer (some ⟨b, off + fo, none⟩)) w := by
  obtain ⟨u, hu, hm⟩ := (hl t d hd).under
  rw [hk] at hm
  obtain ⟨F, rfl, hkn, hfs⟩ := hm
  subst hfs
  rw [List.getElem?_map] at hf
  cases hx : F.toList[f]? with
  | none => rw [hx] at hf; simp at hf
  | some x =>
    rw [hx] at hf
    simp only [Option.map_some, Option.some.injEq, Prod.mk.injEq] at hf
    obtain ⟨rfl, rfl, rfl⟩ := hf
    have hx' : F[f]? = some x := by rw [← Array.getElem?_toList]; exact hx
    have hs := knownB.run_size (hkn x (List.mem_of_getElem? hx)) w
    unfold Instr.fieldAt
    simp only [Sem.run_bind, run_underlying hu, Result.andThen_ok, hx', Instr.sureAddr, Sem.run_pure, fieldPlace, hs, if_neg hn, add_plain']

theorem evalOp0_sound {lay : Lay} {σ : List (Nat × SV)} {m : MState} {h : Hint} {o : Oper} {out : Out} {obs : List Ob} {a : Act} {B : Nat} (hl : LayOK P lay)
    (hev : evalOp0 lay σ m h o.op = some (out, obs)) (hs : ∀ x ∈ o.op.operands, ∀ sv, opnd σ x = some sv → a.eval x = sv.val E) (hm : Known E w m (touches0 σ h o.op)) (ho : AllOb P B obs) :
    DoesOut P E h.g w ((execOp a.eval o).run P w) out := by
  obtain ⟨dst, op, type, pos, after, guard⟩ := o
  simp only at hev hs hm
  have hgr : Nice E m := ⟨fun k q hq => by
    obtain ⟨B, hB⟩ := hm.gr k q hq
    obtain ⟨A, c, e⟩ := gr_slice hB
    exact ⟨A, _, c, e⟩, hm.one⟩
  cases op <;> simp only [evalOp0, reduceCtorEq] at hev
  case move x =>
    split at hev
    · rename_i v hv
      simp only [Option.some.injEq, Prod.mk.injEq] at hev
      obtain ⟨rfl, rfl⟩ := hev
      simp [DoesOut, execOp, hs x (by simp [Op.operands]) v hv]
    · cases hev
  case assign x =>
    split at hev
    · rename_i v hv
      simp only [Option.some.injEq, Prod.mk.injEq] at hev
      obtain ⟨rfl, rfl⟩ := hev
      simp [DoesOut, execOp, hs x (by simp [Op.operands]) v hv]
    · cases hev
  case pick c x y =>
    cases hpk : h.pk with
    | true =>
      rw [hpk] at hev
      simp only at hev
      cases c <;> simp only [reduceCtorEq] at hev
      case tmp d =>
        split at hev
        · rename_i p sx sy hc hx hy
          split at hev
          · rename_i v ob hp
            simp only [Option.some.injEq, Prod.mk.injEq] at hev
            obtain ⟨rfl, rfl⟩ := hev
            have hc := hs (.tmp d) (by simp [Op.operands]) _ (show opnd σ (.tmp d) = _ from hc)
            have hx := hs x (by simp [Op.operands]) _ hx
            have hy := hs y (by simp [Op.operands]) _ hy
            have hv := pickSV_ok hp ho (E := E)
            simp only [DoesOut, execOp, hc, hx, hy, SV.val, asBool, Sem.run_bind, Sem.run_pure, Result.andThen_ok, hv]
          · cases hev
        · cases hev
    | false =>
    rw [hpk] at hev
    simp only at hev
    split at hev
    · rename_i hc
      have hc := hs c (by simp [Op.operands]) _ hc
      split at hev
      · rename_i v hv
        simp only [Option.some.injEq, Prod.mk.injEq] at hev
        obtain ⟨rfl, rfl⟩ := hev
        have hv := hs x (by simp [Op.operands]) _ hv
        simp [DoesOut, execOp, hc, hv, SV.val, asBool, Sem.run_pure]
      · cases hev
    · rename_i hc
      have hc := hs c (by simp [Op.operands]) _ hc
      split at hev
      · rename_i v hv
        simp only [Option.some.injEq, Prod.mk.injEq] at hev
        obtain ⟨rfl, rfl⟩ := hev
        have hv := hs y (by simp [Op.operands]) _ hv
        simp [DoesOut, execOp, hc, hv, SV.val, asBool, Sem.run_pure]
      · cases hev
    · cases hev
  case alloc t =>
    split at hev
    · rename_i d hd
      simp only [Option.some.injEq, Prod.mk.injEq] at hev
      obtain ⟨rfl, rfl⟩ := hev
      obtain ⟨z, hz, hc⟩ := (hl t d hd).run_zero w
      refine ⟨.pointer (some ⟨w.heap.size, 0, none⟩), run_v rfl ?_, fun E' he => by simp [SV.val, he]⟩
      simp only [Instr.alloc, Sem.run_bind, hz, Result.andThen_ok, newVar, newRow, run_newObj_alloc, Sem.run_pure, vals_v]
      rw [← hc]
    · cases hev
  case box t x =>
    split at hev
    · rename_i v hv
      split at hev
      · rename_i cs hcs
        simp only [Option.some.injEq, Prod.mk.injEq] at hev
        obtain ⟨rfl, rfl⟩ := hev
        refine ⟨.pointer (some ⟨w.heap.size, 0, none⟩), run_v rfl ?_, fun E' he => by simp [SV.val, he]⟩
        simp only [Instr.box, hs x (by simp [Op.operands]) _ hv, Sem.run_bind, Result.andThen_ok, newVar, newRow, run_newObj_alloc, Sem.run_pure, (cellsSV_ok hgr hcs).1]
      · cases hev
    · cases hev
  case build t ps =>
    split at hev
    · rename_i fs n z eq by' hd
      split at hev
      · rename_i qs hq
        split at hev
        · rename_i cs hf
          simp only [Option.some.injEq, Prod.mk.injEq] at hev
          obtain ⟨rfl, rfl⟩ := hev
          obtain ⟨zv, hz, hc⟩ := (hl t _ hd).run_zero w
          obtain ⟨u, hu, hmm⟩ := (hl t _ hd).under
          obtain ⟨F, rfl, hkn, hfs⟩ := hmm
          refine run_v rfl ?_
          have hps := opndsP_ok (ev := a.eval) hq (fun x hx => hs x.2 (by simp [Op.operands]; exact ⟨x.1, by simpa using hx⟩))
          have hfill := fill_ok (m := m) hgr (place := fun i => (F.map fun f => (f.offset, P.cellsOf f.type))[i]?) (fun i o n b hi => by
            rw [hfs, List.getElem?_map] at hi
            cases hx : F.toList[i]? with
            | none => rw [hx] at hi; simp at hi
            | some x =>
              rw [hx] at hi
              simp only [Option.map_some, Option.some.injEq, Prod.mk.injEq] at hi
              have hx' : F[i]? = some x := by rw [← Array.getElem?_toList]; exact hx
              simp [Array.getElem?_map, hx', hi.1, hi.2.1]) qs _ _ hf
          unfold Instr.build
          simp only [Sem.run_bind, hz, Result.andThen_ok, run_underlying hu, run_mapM_places F hkn]
          have e1 : zv.cells = (SV.vals E (z.map SV.v)).toArray := by rw [vals_v]; apply Array.ext'; simpa using hc
          have e2 : (ps.map fun x => (x.1, a.eval x.2)).toList = qs.map (fun (i, v) => (i, v.val E)) := by rw [← hps]; simp
          simp only [e1, e2, hfill, Sem.run_pure, SV.val]
        · cases hev
      · cases hev
    · cases hev
  case load t x =>
    split at hev
    · rename_i d g off hd hx
      split at hev
      · rename_i ty cs hg
        split at hev
        · rename_i hb
          split at hev
          · rename_i v hv
            simp only [Option.some.injEq, Prod.mk.injEq] at hev
            obtain ⟨rfl, rfl⟩ := hev
            simp only [Bool.and_eq_true, Nat.ble_eq, Bool.or_eq_true, Nat.beq_eq] at hb
            have hB := hm.blk g (by simp [touches0, hx]) _ _ hg
            refine run_v rfl ?_
            rw [hs x (by simp [Op.operands]) _ hx]
            exact run_load_cells hl hd (fun j y hy => by
              rw [hB.cell]
              have : cs[off + j]? = some y := by
                rw [List.getElem?_take] at hy
                split at hy
                · rwa [List.getElem?_drop] at hy
                · cases hy
              simp [vals_get, this]) hb.1 hb.2 hv
          · cases hev
        · cases hev
      · cases hev
    · rename_i d s i off hd hx
      split at hev
      · rename_i q hq
        split at hev
        · rename_i hb
          split at hev
          · rename_i v hv
            simp only [Option.some.injEq, Prod.mk.injEq] at hev
            obtain ⟨rfl, rfl⟩ := hev
            simp only [Bool.and_eq_true, Nat.ble_eq, Bool.or_eq_true, Nat.beq_eq] at hb
            obtain ⟨b, o, hA, _, hn, hc⟩ := rd_at (hm.rd s q hq) ho.1
            refine run_v rfl ?_
            rw [hs x (by simp [Op.operands]) _ hx, at_val hA]
            refine run_load_cells hl hd (cs := (q.get i.toNat).map SV.v) (off := off) (b := b) (fun j y hy => ?_) (by simpa using hb.1) hb.2 hv
            rw [List.getElem?_take] at hy
            split at hy
            · rw [List.getElem?_drop, List.getElem?_map] at hy
              cases hz : (q.get i.toNat)[off + j]? with
              | none => rw [hz] at hy; simp at hy
              | some z =>
                rw [hz] at hy
                simp only [Option.map_some, Option.some.injEq] at hy
                subst hy
                rw [hn, Nat.add_assoc, Nat.add_assoc]
                exact hc _ _ hz
            · cases hy
          · cases hev
        · cases hev
      · cases hev
    · cases hev
  case store t x y =>
    split at hev
    · rename_i d g off v hd hx hy
      split at hev
      · rename_i ty cs vs hg hc
        split at hev
        · rename_i hb
          simp only [Option.some.injEq, Prod.mk.injEq] at hev
          obtain ⟨rfl, rfl⟩ := hev
          simp only [Bool.and_eq_true, Nat.ble_eq, Nat.beq_eq] at hb
          have hB := hm.blk g (by simp [touches0, hx]) _ _ hg
          obtain ⟨e1, e2⟩ := cellsSV_ok hgr hc
          have hst := run_storeCells_at (P := P) (E.ρ g) off ty (SV.vals E vs) 0 (SV.vals E cs).toArray w hB (by simp [vals_length]; omega) e2
          have hrun : (Instr.storeAt t (a.eval x) (a.eval y)).run P w = .ok () (w.setRow (E.ρ g) ((SV.vals E cs).take off ++ SV.vals E vs ++ (SV.vals E cs).drop (off + vs.length)).toArray) := by
            rw [hs x (by simp [Op.operands]) _ hx, hs y (by simp [Op.operands]) _ hy]
            unfold Instr.storeAt storeVar
            simp only [SV.val, Instr.sureAddr, Sem.run_bind, Sem.run_pure, Result.andThen_ok, (hl t d hd).run_size, e1]
            rw [if_neg (by simp [vals_length, hb.1])]
            simp only [Nat.add_zero, vals_length] at hst
            exact hst
          simp only [DoesOut, execOp, Sem.run_bind, hrun, Result.andThen_ok, Sem.run_pure]
        · cases hev
      · cases hev
    · cases hev
  case nilCheck x =>
    split at hev
    · rename_i g off hx
      simp only [Option.some.injEq, Prod.mk.injEq] at hev
      obtain ⟨rfl, rfl⟩ := hev
      simp only [DoesOut, execOp, hs x (by simp [Op.operands]) _ hx, SV.val, Sem.run_pure]
    · rename_i s i off hx
      split at hev
      · rename_i q hq
        simp only [Option.some.injEq, Prod.mk.injEq] at hev
        obtain ⟨rfl, rfl⟩ := hev
        obtain ⟨b, o, hA, _⟩ := rd_at (hm.rd s q hq) ho.1
        simp only [DoesOut, execOp, hs x (by simp [Op.operands]) _ hx, at_val hA, Sem.run_pure]
      · cases hev
    · rename_i b hx
      simp only [Option.some.injEq, Prod.mk.injEq] at hev
      obtain ⟨rfl, rfl⟩ := hev
      simp only [DoesOut, execOp, hs x (by simp [Op.operands]) _ hx, SV.val, Sem.run_pure]
    · cases hev
  case slice t x lo hi mx =>
    cases mx with
    | some z => simp at hev
    | none =>
    simp only at hev
    split at hev
    · rename_i el es n z eq by' s hd hx
      split at hev
      · rename_i q hq
        split at hev
        · rename_i la lb hla hlb
          split at hev
          · rename_i hes
            simp only [Option.some.injEq, Prod.mk.injEq] at hev
            obtain ⟨rfl, rfl⟩ := hev
            obtain ⟨⟨h0, h1, h2⟩, _⟩ := ho
            have hes := Nat.eq_of_beq_eq_true hes
            subst hes
            obtain ⟨u, hu, hmm⟩ := (hl t _ hd).under
            obtain ⟨rfl, hkn, hcs⟩ := hmm
            have hel : P.elem t = el := by simp [Program.elem, hu]
            have hu' : P.underlying t = some (.slice (P.elem t)) := by rw [hel]; exact hu
            have hsz : (sizeOf (P.elem t)).run P w = .ok q.n w := by
              rw [hel, hcs]
              exact knownB.run_size hkn w
            obtain ⟨r1, r2, r3, _⟩ := hm.rd s q hq
            have hxv : a.eval x = .slice (E.sl s).A q.len (E.sl s).cap := by
              rw [hs x (by simp [Op.operands]) _ hx]
              simp only [SV.val, r1]
            have hbound : ∀ (z : Option Operand) (dd v : Int), (∀ y, z = some y → y ∈ (Op.slice t x lo hi none).operands) → boundSV σ z dd = some v → (z = none ∧ v = dd) ∨ ∃ y, z = some y ∧ a.eval y = .int .i64 v := fun z dd v hmem hb => by
              cases z with
              | none => simp only [boundSV, Option.some.injEq] at hb; exact .inl ⟨rfl, hb.symm⟩
              | some y =>
                simp only [boundSV] at hb
                split at hb
                · rename_i c hc
                  simp only [Option.some.injEq] at hb
                  subst hb
                  exact .inr ⟨y, rfl, hs y (hmem y rfl) _ hc⟩
                · cases hb
            obtain ⟨na, rfl⟩ : ∃ n : Nat, la = n := ⟨la.toNat, (Int.toNat_of_nonneg h0).symm⟩
            obtain ⟨nb, rfl⟩ : ∃ n : Nat, lb = n := ⟨lb.toNat, (Int.toNat_of_nonneg (Int.le_trans h0 h1)).symm⟩
            simp only [Int.toNat_natCast]
            have hr : (Instr.slice t (.slice (E.sl s).A q.len (E.sl s).cap) (lo.map a.eval) (hi.map a.eval) none).run P w = .ok (sliced (E.sl s).A na nb (E.sl s).cap q.n) w := by
              rcases hbound lo 0 _ (fun y hy => by subst hy; simp [Op.operands]) hla with ⟨rfl, e1⟩ | ⟨y, rfl, e1⟩ <;> rcases hbound hi q.len _ (fun y hy => by subst hy; simp [Op.operands]) hlb with ⟨rfl, e2⟩ | ⟨y', rfl, e2⟩
              · have e1' : na = 0 := by omega
                have e2' : nb = q.len := by omega
                subst e1'
                subst e2'
                simp only [Option.map_none]
                rw [run_slice_all (P := P) (w := w) t (E.sl s).A q.len (E.sl s).cap hu', hsz]
                simp [Result.andThen]
              · have e1' : na = 0 := by omega
                subst e1'
                simp only [Option.map_none, Option.map_some, e2]
                rw [run_slice_h (P := P) (w := w) t (E.sl s).A q.len (E.sl s).cap hu' .i64 (nb : Int) (by omega) (by omega), hsz]
                simp [Result.andThen]
              · have e2' : nb = q.len := by omega
                subst e2'
                simp only [Option.map_none, Option.map_some, e1]
                rw [run_slice_l (P := P) (w := w) t (E.sl s).A q.len (E.sl s).cap hu' .i64 (na : Int) h0 (by omega), hsz]
                simp [Result.andThen]
              · simp only [Option.map_some, e1, e2]
                rw [run_slice_lh (P := P) (w := w) t (E.sl s).A q.len (E.sl s).cap hu' .i64 .i64 (na : Int) (nb : Int) h0 h1 (by omega), hsz]
                simp [Result.andThen]
            simp only [DoesOut, execOp, hxv, Option.map_none, Sem.run_bind, run_sliceAt_slice _ t _ _ _ _ hu', hr, Result.andThen_ok, Sem.run_pure, SV.val, subV, sliced, r2]
          · cases hev
        · cases hev
      · cases hev
    · cases hev
  case binOp op t x y yt =>
    split at hev
    · rename_i u v hx hy
      split at hev
      · rename_i r ob hr
        simp only [Option.some.injEq, Prod.mk.injEq] at hev
        obtain ⟨rfl, rfl⟩ := hev
        refine run_v rfl ?_
        rw [hs x (by simp [Op.operands]) _ hx, hs y (by simp [Op.operands]) _ hy]
        exact run_evBin hl hr ho
      · cases hev
    · cases hev
  case unOp op t x =>
    cases op <;> simp only [reduceCtorEq] at hev
    case not =>
      split at hev
      · rename_i b hx
        simp only [Option.some.injEq, Prod.mk.injEq] at hev
        obtain ⟨rfl, rfl⟩ := hev
        refine run_v rfl ?_
        rw [hs x (by simp [Op.operands]) _ hx]
        simp [Op.unary, SV.val, Sem.run_pure]
      · cases hev
    case neg =>
      split at hev
      · rename_i k e hx
        simp only [Option.some.injEq, Prod.mk.injEq] at hev
        obtain ⟨rfl, rfl⟩ := hev
        refine run_v rfl ?_
        rw [hs x (by simp [Op.operands]) _ hx]
        simp only [SV.val, Op.unary, Op.intArith]
        cases hw : h.w with
        | true => simp [ar, SV.val, Sem.run_pure]
        | false => rw [hw] at ho; simp [ar, AllOb, Ob.holds] at ho; simp [ar, SV.val, Sem.run_pure, ho]
      · cases hev
  case fieldAddr t x f =>
    split at hev
    · rename_i fs n z eq by' g off hd hx
      split at hev
      · rename_i fo fn ag hf
        split at hev
        · rename_i hb
          simp only [Option.some.injEq, Prod.mk.injEq] at hev
          obtain ⟨rfl, rfl⟩ := hev
          refine run_v rfl ?_
          rw [hs x (by simp [Op.operands]) _ hx]
          exact run_fieldAt hl hd rfl hf (fun e => by subst e; simp at hb) _ _
        · cases hev
      · cases hev
    · rename_i fs n z eq by' s i off hd hx
      split at hev
      · rename_i fo fn ag q hf hq
        split at hev
        · rename_i hb
          simp only [Option.some.injEq, Prod.mk.injEq] at hev
          obtain ⟨rfl, rfl⟩ := hev
          obtain ⟨b, o, hA, _⟩ := rd_at (hm.rd s q hq) ho.1
          refine run_v rfl ?_
          rw [hs x (by simp [Op.operands]) _ hx, at_val hA, at_val hA]
          rw [run_fieldAt hl hd rfl hf (fun e => by subst e; simp at hb)]
          simp [Nat.add_assoc]
        · cases hev
      · cases hev
    · cases hev
  case field t x f =>
    split at hev
    · rename_i fs n z eq by' xs hd hx
      split at hev
      · rename_i fo fn ag hf
        split at hev
        · rename_i v hv
          simp only [Option.some.injEq, Prod.mk.injEq] at hev
          obtain ⟨rfl, rfl⟩ := hev
          refine run_v rfl ?_
          rw [hs x (by simp [Op.operands]) _ hx]
          obtain ⟨u, hu, hmm⟩ := (hl t _ hd).under
          obtain ⟨F, rfl, hkn, hfs⟩ := hmm
          subst hfs
          rw [List.getElem?_map] at hf
          cases hx' : F.toList[f]? with
          | none => rw [hx'] at hf; simp at hf
          | some y =>
            rw [hx'] at hf
            simp only [Option.map_some, Option.some.injEq, Prod.mk.injEq] at hf
            obtain ⟨rfl, rfl, rfl⟩ := hf
            have hy : F[f]? = some y := by rw [← Array.getElem?_toList]; exact hx'
            have hk := hkn y (List.mem_of_getElem? hx')
            unfold Instr.field
            simp only [Sem.run_bind, run_underlying hu, Result.andThen_ok, hy, SV.val, asAgg, Sem.run_pure]
            unfold part
            have hk2 := hk
            simp only [knownB, Bool.and_eq_true, Option.isSome_iff_exists] at hk2
            simp only [Sem.run_bind, run_isAgg hk2.2, Result.andThen_ok]
            cases ha : aggB P y.type with
            | true =>
              rw [ha] at hv
              simp only [partSV, Option.some.injEq] at hv
              subst hv
              have : (SV.vals E xs).toArray.extract y.offset (y.offset + P.cellsOf y.type) = (SV.vals E ((xs.drop y.offset).take (P.cellsOf y.type))).toArray := by
                apply Array.ext'
                simp [vals_take, vals_drop, List.take_drop]
              simp only [if_true, Sem.run_bind, knownB.run_size hk, Result.andThen_ok, this]
              rfl
            | false =>
              rw [ha] at hv
              simp only [partSV] at hv
              have : (SV.vals E xs).toArray[y.offset]? = some (v.val E) := by simp [vals_get, hv]
              simp [this, go_sem]
        · cases hev
      · cases hev
    · cases hev
  case indexAddr t x i =>
    split at hev
    · rename_i el es n z eq by' s ik i' hd hx hi
      split at hev
      · rename_i q hq
        split at hev
        · rename_i hb
          simp only [Option.some.injEq, Prod.mk.injEq] at hev
          obtain ⟨rfl, rfl⟩ := hev
          have hb := Nat.eq_of_beq_eq_true hb
          obtain ⟨b, o, hA, _, hn, _⟩ := rd_at (hm.rd s q hq) ho.1
          obtain ⟨u, hu, hmm⟩ := (hl t _ hd).under
          obtain ⟨rfl, hkn, hes⟩ := hmm
          have hlen := (hm.rd s q hq).1
          have hi' : 0 ≤ i' ∧ i' < q.len := ho.1
          refine run_v rfl ?_
          rw [hs x (by simp [Op.operands]) _ hx, hs i (by simp [Op.operands]) _ hi, at_val hA]
          unfold Instr.indexAt
          simp only [SV.val, asIntOf, Sem.run_bind, Sem.run_pure, Result.andThen_ok, run_underlying hu, hA]
          rw [if_pos (by rw [hlen]; exact hi')]
          simp only [Sem.run_bind, knownB.run_size hkn, Result.andThen_ok, Sem.run_pure, add_plain', Nat.add_zero]
          rw [← hes, hb, hn]
        · cases hev
      · cases hev
    · cases hev
  case convert src dst x =>
    split at hev
    · rename_i ks n1 z1 e1 y1 k n2 z2 e2 y2 k' b h1 h2 hx
      simp only [Option.some.injEq, Prod.mk.injEq] at hev
      obtain ⟨rfl, rfl⟩ := hev
      obtain ⟨u1, hu1, hm1⟩ := (hl src _ h1).under
      obtain ⟨u2, hu2, hm2⟩ := (hl dst _ h2).under
      simp only at hm1 hm2
      subst hm1 hm2
      refine run_v rfl ?_
      rw [hs x (by simp [Op.operands]) _ hx]
      simp only [SV.val, Go.convert, Sem.run_bind, run_underlying hu1, run_underlying hu2, Result.andThen_ok, Conv.intToInt]
      cases hw : h.w with
      | true => simp [ar, SV.val, Sem.run_pure]
      | false => rw [hw] at ho; simp [ar, AllOb, Ob.holds] at ho; simp [ar, SV.val, Sem.run_pure, ho]
    · cases hev
  case buildSlice t len ps =>
    split at hev
    · rename_i hb0
      split at hev
      · rename_i e es n z eq by' hd
        simp only [Option.some.injEq, Prod.mk.injEq] at hev
        obtain ⟨rfl, rfl⟩ := hev
        simp only [Bool.and_eq_true, Nat.beq_eq, List.isEmpty_iff] at hb0
        obtain ⟨rfl, hps⟩ := hb0
        obtain ⟨u, hu, hmm⟩ := (hl t _ hd).under
        obtain ⟨rfl, hkn, hes⟩ := hmm
        refine ⟨.slice (some ⟨w.heap.size, 0, none⟩) 0 0, run_v rfl ?_, fun E' he => by simp [SV.val, he]⟩
        have e2 : (ps.map fun x => (x.1, a.eval x.2)).toList = [] := by simp [hps]
        unfold Instr.buildSlice
        simp only [Sem.run_bind, run_underlying hu, Result.andThen_ok, knownB.run_size hkn, ← hes]
        rw [if_neg (by omega), if_pos (Nat.zero_mul _)]
        simp only [Sem.run_bind, Sem.run_pure, Result.andThen_ok, e2]
        simp [Instr.fill, newRow, run_newObj_alloc, SV.vals, Result.andThen]
        have e3 : (Array.range 0).map (fun _ => (default : Value)) = #[] := by apply Array.ext'; simp [Array.range]
        rw [e3]
      · cases hev
    split at hev
    · rename_i e es n z eq by' qs hd hq
      split at hev
      · rename_i d cs hde hc
        split at hev
        · rename_i hb
          simp only [Option.some.injEq, Prod.mk.injEq] at hev
          obtain ⟨rfl, rfl⟩ := hev
          simp only [Bool.and_eq_true, Nat.beq_eq, Nat.ble_eq, Bool.not_eq_true'] at hb
          obtain ⟨⟨⟨⟨b1, b2⟩, b3⟩, b4⟩, b5⟩ := hb
          obtain ⟨u, hu, hmm⟩ := (hl t _ hd).under
          obtain ⟨rfl, hkn, hes⟩ := hmm
          obtain ⟨zv, hz, hzc⟩ := (hl e _ hde).run_zero w
          have hne : len ≠ 0 := fun h => by subst h; simp at b4
          have hne2 : es ≠ 0 := fun h => by subst h; simp at b5
          refine ⟨.slice (some ⟨w.heap.size, 0, none⟩) len len, run_v rfl ?_, fun E' he => by simp [SV.val, he]⟩
          have hps := opndsP_ok (ev := a.eval) hq (fun x hx => hs x.2 (by simp [Op.operands]; exact ⟨x.1, by simpa using hx⟩))
          have e2 : (ps.map fun x => (x.1, a.eval x.2)).toList = qs.map (fun (i, v) => (i, v.val E)) := by rw [← hps]; simp
          have hcc := concat_fill (E := E) hgr qs 0 cs es ((Array.range (len * es)).map (zv.cells[· % zv.cells.size]!)) hc (by simp; rw [← b1]; omega)
          unfold Instr.buildSlice
          simp only [Sem.run_bind, run_underlying hu, Result.andThen_ok, knownB.run_size hkn, ← hes]
          rw [if_neg (by omega)]
          rw [if_neg (Nat.mul_ne_zero hne hne2)]
          simp only [Sem.run_bind, hz, Result.andThen_ok, Sem.run_pure, e2]
          rw [hcc]
          simp only [Sem.run_bind, newRow, run_newObj_alloc, Result.andThen_ok, Sem.run_pure]
          congr 4
          rw [Nat.zero_mul, List.take_zero, List.nil_append, List.drop_of_length_le (by simp; rw [b1]; exact Nat.le_refl _), List.append_nil]
        · cases hev
      · cases hev
    · cases hev
  case extract x i =>
    split at hev
    · rename_i xs hx
      split at hev
      · rename_i v hv
        simp only [Option.some.injEq, Prod.mk.injEq] at hev
        obtain ⟨rfl, rfl⟩ := hev
        refine run_v rfl ?_
        rw [hs x (by simp [Op.operands]) _ hx]
        have : (SV.vals E xs).toArray[i]? = some (v.val E) := by simp [vals_get, hv]
        simp [Instr.extract, SV.val, this, Sem.run_pure]
      · cases hev
    · cases hev
  case makeFunc fn first cap =>
    cases fn <;> simp only [reduceCtorEq] at hev
    split at hev
    · rename_i cs hf hc
      simp only [Option.some.injEq, Prod.mk.injEq] at hev
      obtain ⟨rfl, rfl⟩ := hev
      refine run_v rfl ?_
      have e1 := opnds_ok (ev := a.eval) hc (fun x hx => hs x (by simp [Op.operands]; exact .inr (by simpa using hx)))
      have e2 : first = #[] := by apply Array.ext'; simpa using hf
      subst e2
      have e3 : cap.map a.eval = (SV.vals E cs).toArray := by apply Array.ext'; simpa using e1
      simp [Instr.makeFunc, e3, SV.val, Sem.run_pure]
    · cases hev
  case call c =>
    obtain ⟨callee, args, ts⟩ := c
    have hargs : ∀ vs, opnds σ args.toList = some vs → args.map a.eval = (SV.vals E vs).toArray := fun vs hv => by
      apply Array.ext'
      have := opnds_ok (ev := a.eval) hv (fun x hx => hs x (by cases callee <;> simp [Op.operands, Call.operands] <;> exact (by first | exact .inr (by simpa using hx) | simpa using hx)))
      simpa using this
    cases callee with
    | value x =>
      simp only at hev
      split at hev
      · rename_i f first cap vs hx hv
        split at hev
        · rename_i hf
          have key : EntersOK P f → (execOp a.eval { dst := dst, op := .call ⟨.value x, args, ts⟩, type := type, pos := pos, after := after, guard := guard }).run P w = .ok (.enter f (SV.vals E (vs ++ cap.toList.map SV.v)).toArray) w := fun hent => by
            have e2 : first = #[] := by apply Array.ext'; simpa using hf
            subst e2
            have hx := hs x (by simp [Op.operands, Call.operands]) _ hx
            simp only [execOp, resolve, Sem.run_bind, hargs vs hv, hx, SV.val, Deferred.ofValue, Sem.run_pure, Result.andThen_ok, invoke]
            rw [show ((#[] : Array Value) ++ (SV.vals E vs).toArray ++ cap) = (SV.vals E (vs ++ cap.toList.map SV.v)).toArray from by apply Array.ext'; simp [vals_append, vals_v]]
            exact hent _ _
          split at hev <;> simp only [Option.some.injEq, Prod.mk.injEq] at hev <;> obtain ⟨rfl, rfl⟩ := hev <;> exact key
        · cases hev
      · rename_i f cap vs hx hv
        have key : EntersOK P f → (execOp a.eval { dst := dst, op := .call ⟨.value x, args, ts⟩, type := type, pos := pos, after := after, guard := guard }).run P w = .ok (.enter f (SV.vals E (vs ++ cap)).toArray) w := fun hent => by
          have hx := hs x (by simp [Op.operands, Call.operands]) _ hx
          simp only [execOp, resolve, Sem.run_bind, hargs vs hv, hx, SV.val, Deferred.ofValue, Sem.run_pure, Result.andThen_ok, invoke]
          rw [show ((#[] : Array Value) ++ (SV.vals E vs).toArray ++ (SV.vals E cap).toArray) = (SV.vals E (vs ++ cap)).toArray from by apply Array.ext'; simp [vals_append]]
          exact hent _ _
        split at hev <;> simp only [Option.some.injEq, Prod.mk.injEq] at hev <;> obtain ⟨rfl, rfl⟩ := hev <;> exact key
      · cases hev
    | invoke x n => simp only [reduceCtorEq] at hev
    | builtin b =>
      cases b <;> simp only [reduceCtorEq] at hev
      case append =>
        split at hev
        · rename_i t t' g s hts hav
          split at hev
          · rename_i e es n z eq by' q htt hlt hq
            split at hev
            · rename_i d hde
              split at hev
              · rename_i hb
                simp only [Option.some.injEq, Prod.mk.injEq] at hev
                obtain ⟨rfl, rfl⟩ := hev
                have := Nat.eq_of_beq_eq_true htt
                subst this
                simp only [Bool.and_eq_true, Nat.beq_eq] at hb
                obtain ⟨b1, b2⟩ := hb
                obtain ⟨u, hu, hmm⟩ := (hl t _ hlt).under
                obtain ⟨rfl, hkn, hes⟩ := hmm
                obtain ⟨_, i, hi, his, zv, hzv, hzc⟩ := (hl e d hde).size
                have hby : i.bytes = d.by' := by have := (hl e d hde).bytes; simpa [Program.bytesOf, hi] using this
                obtain ⟨⟨o1, o2, o3⟩, _⟩ := ho
                obtain ⟨v', w', hrun, k1, k2, k3⟩ := append_copy (P := P) (ty := type) hu hi hzv ⟨E.ρ g, 0, none⟩ q (E.sl s) (hm.rd s q hq) (by omega) o1 o2 (by rw [hby]; exact o3)
                have e1 : ts = #[t, t] := by apply Array.ext'; simpa using hts
                subst e1
                have e2 := hargs _ hav
                simp only [SV.vals, SV.val] at e2
                refine ⟨fun _ => v', w', ?_, k1, fun _ => k2, k3⟩
                simp only [execOp, resolve, Sem.run_bind, e2, Sem.run_pure, Result.andThen_ok, invoke, builtin, hrun, SV.val, Env.updX, if_true]
              · cases hev
            · cases hev
          · cases hev
        · cases hev
      case len =>
        have key : ∀ (t : TypeId) (v : SV) (A : Option Addr) (n c : Nat), ts.toList = [t] → opnds σ args.toList = some [v] → v.val E = .slice A n c → (∃ el es m z eq by', look lay t = some ⟨.sli el es, m, z, eq, by'⟩) →
            (execOp a.eval { dst := dst, op := .call ⟨.builtin .len, args, ts⟩, type := type, pos := pos, after := after, guard := guard }).run P w = .ok (.value (.int .i64 n)) w := fun t v A n c h1 h2 h3 ⟨el, es, m', z, eq, by', h4⟩ => by
          obtain ⟨u, hu, hmm⟩ := (hl t _ h4).under
          obtain ⟨rfl, _⟩ := hmm
          have e1 : ts = #[t] := by apply Array.ext'; simpa using h1
          subst e1
          have e2 := hargs _ h2
          simp only [SV.vals, h3] at e2
          simp only [execOp, resolve, Sem.run_bind, e2, Sem.run_pure, Result.andThen_ok, invoke, builtin, Builtin.len_]
          simp [run_underlying hu, goInt, go_sem]
        split at hev
        · rename_i t s h1 h2
          split at hev
          · rename_i el es n z eq by' q h3 h4
            simp only [Option.some.injEq, Prod.mk.injEq] at hev
            obtain ⟨rfl, rfl⟩ := hev
            have := key t _ _ _ _ h1 h2 rfl ⟨_, _, _, _, _, _, h3⟩
            rw [(hm.rd s q h4).1] at this
            exact this
          · cases hev
        · rename_i t k h1 h2
          split at hev
          · rename_i el es n z eq by' q h3 h4
            simp only [Option.some.injEq, Prod.mk.injEq] at hev
            obtain ⟨rfl, rfl⟩ := hev
            obtain ⟨B, hB⟩ := hm.gr k q h4
            obtain ⟨A, c, e⟩ := gr_slice hB
            exact key t _ _ _ _ h1 h2 e ⟨_, _, _, _, _, _, h3⟩
          · cases hev
        · rename_i t A n c h1 h2
          split at hev
          · rename_i el es m z eq by' h3
            simp only [Option.some.injEq, Prod.mk.injEq] at hev
            obtain ⟨rfl, rfl⟩ := hev
            exact key t _ _ _ _ h1 h2 rfl ⟨_, _, _, _, _, _, h3⟩
          · cases hev
        · rename_i t g o n c h1 h2
          split at hev
          · rename_i el es m z eq by' h3
            simp only [Option.some.injEq, Prod.mk.injEq] at hev
            obtain ⟨rfl, rfl⟩ := hev
            exact key t _ _ _ _ h1 h2 rfl ⟨_, _, _, _, _, _, h3⟩
          · cases hev
        · cases hev
      case min =>
        split at hev
        · rename_i x r h1
          split at hev
          · rename_i e he
            simp only [Option.some.injEq, Prod.mk.injEq] at hev
            obtain ⟨rfl, rfl⟩ := hev
            have e2 := hargs _ h1
            have := run_mins2 (P := P) (E := E) (w := w) _ _ _ he
            simp only [SV.vals, SV.val] at e2
            simp only [DoesOut, execOp, resolve, Sem.run_bind, e2, Sem.run_pure, Result.andThen_ok, invoke, builtin, Builtin.min_, this, SV.val]
          · cases hev
        · cases hev
      case max =>
        split at hev
        · rename_i x r h1
          split at hev
          · rename_i e he
            simp only [Option.some.injEq, Prod.mk.injEq] at hev
            obtain ⟨rfl, rfl⟩ := hev
            have e2 := hargs _ h1
            have := run_maxs2 (P := P) (E := E) (w := w) _ _ _ he
            simp only [SV.vals, SV.val] at e2
            simp only [DoesOut, execOp, resolve, Sem.run_bind, e2, Sem.run_pure, Result.andThen_ok, invoke, builtin, Builtin.max_, this, SV.val]
          · cases hev
        · cases hev
theorem evalOp_sound {lay : Lay} {σ : List (Nat × SV)} {m : MState} {h : Hint} {o : Oper} {out : Out} {obs : List Ob} {a : Act} {B : Nat} (hl : LayOK P lay)
    (hev : evalOp lay σ m h o.op = some (out, obs)) (hs : ∀ x ∈ o.op.operands, ∀ sv, opnd σ x = some sv → a.eval x = sv.val E) (hm : Known E w m (touches σ h o.op)) (ho : AllOb P B obs) (hM : h.px.isSome = true → ∃ R, Mem B R (m.foot h.fp) E w) :
    DoesOut P E h.g w ((execOp a.eval o).run P w) out := by
  have key : ∀ xs, opnds σ o.op.operands.toList = some xs → o.op.operands.toList.map a.eval = SV.vals E xs := fun xs hx => opnds_ok hx fun x hx' sv h' => hs x (by simpa using hx') sv h'
  rcases evalOp_cases hev with ⟨res, xs, e1, e2, (⟨_, rfl, rfl⟩ | ⟨Φ, _, rfl, rfl⟩)⟩ | ⟨f, args, xs, e1, e2, rfl, rfl⟩ | ⟨e1, e2, e3⟩
  · obtain ⟨R, hR⟩ := hM (by rw [e1]; rfl)
    exact ho.1 E w R a.eval _ _ _ _ _ hR (key xs e2)
  · exact ho.1 E w a.eval _ _ _ _ _ (key xs e2)
  · exact fun _ => ho.2.1 E w a.eval _ _ _ _ _ (key xs e2)
  · exact evalOp0_sound hl e3 hs (by rw [← touches_0 e1 e2]; exact hm) ho
end Go.Proofs.Ytlcccomdijdkaaa
namespace Go.Proofs.Ytlcccomdijdkaaa
open Go.RowKit

variable {P : Program} {X : Ctx} {sf : Nat → Option SV} {bf : BF} {rds : List (Nat × Q)} {grs : List (Nat × GQ)} {E : Env} {a : Act} {w : World}

def updF {β : Type} (f : Nat → Option β) (k : Nat) (x : β) : Nat → Option β := fun t => if t = k then some x else f t
theorem look_upd {β : Type} (l : List (Nat × β)) (k : Nat) (x : β) : look ((k, x) :: l) = updF (look l) k x := by
  funext t
  unfold updF
  by_cases h : t = k
  · subst h; rw [look_same, if_pos rfl]
  · rw [look_ne (fun e => h e.symm), if_neg h]

mutual
def SV.free (g : Nat) : SV → Bool
  | .v _ => true
  | .own g' _ => !Nat.beq g g'
  | .sl _ => true
  | .at _ _ _ => true
  | .gr _ => true
  | .ltr g' _ => !Nat.beq g g'
  | .row g' _ _ _ => !Nat.beq g g'
  | .sub _ _ _ => true
  | .agg xs => SV.frees g xs
  | .tup xs => SV.frees g xs
  | .fn _ cap => SV.frees g cap
  | .gd _ _ _ x => x.free g
def SV.frees (g : Nat) : List SV → Bool
  | [] => true
  | x :: xs => x.free g && SV.frees g xs
end
/-- what is held of a number does not name g -/
def BE.free (g : Nat) : BE → Bool
  | .blk _ cs => SV.frees g cs
  | .held _ => true
def Env.upd (E : Env) (g b : Nat) : Env := { E with ρ := fun k => if k = g then b else E.ρ k }
theorem Env.upd_same (E : Env) (g b : Nat) : (E.upd g b).ρ g = b := by simp [Env.upd]
theorem Env.upd_ne (E : Env) {g k : Nat} (b : Nat) (h : k ≠ g) : (E.upd g b).ρ k = E.ρ k := by simp [Env.upd, h]
theorem Env.updX_same (E : Env) (g : Nat) (v : Nat → Value) : (E.updX g v).x g = v := by simp [Env.updX]
theorem Env.updX_ne (E : Env) {g k : Nat} (v : Nat → Value) (h : k ≠ g) : (E.updX g v).x k = E.x k := by simp [Env.updX, h]
/-- two readings that differ at g alone -/
structure Env.But (g : Nat) (E E' : Env) : Prop where
  ρ : ∀ k, k ≠ g → E'.ρ k = E.ρ k
  x : ∀ k, k ≠ g → E'.x k = E.x k
  sl : E'.sl = E.sl
  gr : E'.gr = E.gr
theorem Env.upd_but (E : Env) (g b : Nat) : Env.But g E (E.upd g b) := ⟨fun _ h => Env.upd_ne E b h, fun _ _ => rfl, rfl, rfl⟩
theorem Env.updX_but (E : Env) (g : Nat) (v : Nat → Value) : Env.But g E (E.updX g v) := ⟨fun _ _ => rfl, fun _ h => Env.updX_ne E v h, rfl, rfl⟩
theorem ne_of_beq {g g' : Nat} (h : (!Nat.beq g g') = true) : g' ≠ g := fun e => by subst e; simp at h
mutual
theorem SV.val_but {E' : Env} {g : Nat} (h : Env.But g E E') : ∀ (x : SV), x.free g = true → x.val E' = x.val E
  | .v _, _ => by simp [SV.val]
  | .own g' _, hf => by simp [SV.val, h.ρ g' (ne_of_beq hf)]
  | .sl _, _ => by simp [SV.val, h.sl]
  | .at _ _ _, _ => by simp [SV.val, h.sl]
  | .gr _, _ => by simp [SV.val, h.gr]
  | .ltr g' _, hf => by simp [SV.val, h.x g' (ne_of_beq hf)]
  | .row g' _ _ _, hf => by simp [SV.val, h.ρ g' (ne_of_beq hf)]
  | .sub _ _ _, _ => by simp [SV.val, h.sl]
  | .agg xs, hf => by simp only [SV.val, SV.vals_but h xs hf]
  | .tup xs, hf => by simp only [SV.val, SV.vals_but h xs hf]
  | .fn _ cap, hf => by simp only [SV.val, SV.vals_but h cap hf]
  | .gd _ _ W x, hf => by simp only [SV.val, SV.val_but h x hf]
theorem SV.vals_but {E' : Env} {g : Nat} (h : Env.But g E E') : ∀ (xs : List SV), SV.frees g xs = true → SV.vals E' xs = SV.vals E xs
  | [], _ => by simp [SV.vals]
  | x :: xs, hf => by
    simp only [SV.frees, Bool.and_eq_true] at hf
    simp only [SV.vals, SV.val_but h x hf.1, SV.vals_but h xs hf.2]
end
theorem SV.val_upd (E : Env) (g b : Nat) (x : SV) (h : x.free g = true) : x.val (E.upd g b) = x.val E := SV.val_but (Env.upd_but E g b) x h
theorem SV.vals_upd (E : Env) (g b : Nat) (xs : List SV) (h : SV.frees g xs = true) : SV.vals (E.upd g b) xs = SV.vals E xs := SV.vals_but (Env.upd_but E g b) xs h

theorem StF.put (h : StF X sf bf rds grs E a w) {d : Nat} (hd : d < X.n) (sv : SV) : StF X (updF sf d sv) bf rds grs E (a.put (some d) (sv.val E)) w := by
  refine ⟨fun t x hx => ?_, by simp [Act.put, h.size], h.defers, h.kept, h.mem, h.sep, h.pin⟩
  unfold updF at hx
  split at hx
  · rename_i e
    subst e
    simp only [Option.some.injEq] at hx
    subst hx
    simp [Act.put, h.size, hd]
  · rename_i e
    have := h.slot t x hx
    simp only [Act.put]
    rw [Array.getElem?_setIfInBounds_ne (fun h => e h.symm)]
    exact this
theorem RdAt.move {w w' : World} {q : Q} {r : RS} (h : RdAt w q r) (hz : w.heap.size ≤ w'.heap.size) (hb : ∀ b off, 0 < q.len → r.A = some ⟨b, off, none⟩ → b < w.heap.size → w'.heap[b]? = w.heap[b]?) : RdAt w' q r := by
  obtain ⟨h1, h2, hcap, h3⟩ := h
  refine ⟨h1, h2, hcap, fun h0 => ?_⟩
  obtain ⟨b, off, h4, h5, h6⟩ := h3 h0
  exact ⟨b, off, h4, Nat.lt_of_lt_of_le h5 hz, fun i hi j v hv => (World.cell?_of_block (hb b off h0 h4 h5)).trans (h6 i hi j v hv)⟩
theorem GrAt.move {w w' : World} {B : Nat} {q : GQ} {v : Value} (h : GrAt w B q v) (hb : ∀ b, v.ownBlock = some b → w'.heap[b]? = w.heap[b]?) : GrAt w' B q v := by
  refine ⟨h.1, ?_⟩
  rcases h.2 with hn | ⟨g, cap, cur, e, hB, hg, rest⟩
  · exact .inl hn
  · exact .inr ⟨g, cap, cur, e, hB, (hb g (by rw [e]; rfl)).trans hg, rest⟩
/-- a callee, or a draw, has turned nothing old -/
theorem StF.later (h : StF X sf bf rds grs E a w) {w' : World} (hb : Below w.heap.size w w') : StF X sf bf rds grs E a w' := by
  refine ⟨h.slot, h.size, h.defers, h.kept.trans (Kept.of_below hb), ⟨fun g t cs hg => (hb.block _ (h.mem.blk g t cs hg).lt).trans (h.mem.blk g t cs hg), fun s q hq => (h.mem.rd s q hq).move hb.size fun b _ _ _ hl => hb.block b hl, fun k q hq => (h.mem.gr k q hq).move fun b hbb => hb.block b (World.ownsRow.lt (h.mem.gr k q hq) b hbb).2, h.mem.one⟩,
    ⟨h.sep.base, h.sep.inj, h.sep.ginj, h.sep.mix, h.sep.rd, fun g Φ hΦ => (h.sep.held g Φ hΦ).later hb⟩, h.pin⟩

theorem StF.ltB (h : StF X sf bf rds grs E a w) {k : Nat} (hk : OwnB bf grs E k) : k < w.heap.size := by
  rcases hk with ⟨g, t, cs, hg, rfl⟩ | ⟨j, q, hq, hb⟩
  · exact (h.mem.blk g t cs hg).lt
  · exact (World.ownsRow.lt (h.mem.gr j q hq) k hb).2
theorem StF.size0 (h : StF X sf bf rds grs E a w) : X.w0.heap.size ≤ w.heap.size := h.kept.size
theorem StF.rdlt (h : StF X sf bf rds grs E a w) {s : Nat} {q : Q} {b off : Nat} (hq : look rds s = some q) (hl : 0 < q.len) (hA : (E.sl s).A = some ⟨b, off, none⟩) : b < w.heap.size := by
  obtain ⟨b', off', hA', hlt, _⟩ := (h.mem.rd s q hq).2.2.2 hl
  rw [hA'] at hA
  have e : b' = b := by simpa using congrArg (fun o => (o.map Addr.block).getD 0) hA
  omega
/-- what a callee may use -/
theorem StF.memOf (h : StF X sf bf rds grs E a w) {m : MState} (hr : m.rds = rds) (hg : m.grs = grs) (hb : ∀ g y, look m.blks g = some y → bf g = some y) : Mem X.w0.heap.size (Apart X.w0.heap.size X.R bf grs E) m E w :=
  ⟨h.size0, fun g t cs hx => h.mem.blk g t cs (hb g _ hx), fun s q hq => h.mem.rd s q (hr ▸ hq), fun s q b off hq hl hA => h.sep.rd s q b off (hr ▸ hq) hl hA, fun k q hq => h.mem.gr k q (hg ▸ hq), fun g Φ hx => h.sep.held g Φ (hb g _ hx), h.mem.one⟩

/-- a new block -/
theorem StF.new (h : StF X sf bf rds grs E a w) {g : Nat} (hlt : g < 1000) (hg : bf g = none) (hs : ∀ t sv, sf t = some sv → sv.free g = true) (hb : ∀ g' y, bf g' = some y → y.free g = true)
    (t : TypeId) (cs : List SV) (hc : SV.frees g cs = true) : StF X sf (updF bf g (.blk t cs)) rds grs (E.upd g w.heap.size) a (w.alloc (.cells (SV.vals E cs).toArray t)) := by
  have hL := h.later (w' := w.alloc (.cells (SV.vals E cs).toArray t)) ((Below.refl _ _).alloc (Nat.le_refl _) _)
  have hold : ∀ k, OwnB (updF bf g (.blk t cs)) grs (E.upd g w.heap.size) k → OwnB bf grs E k ∨ k = w.heap.size := by
    rintro k (⟨g', t', cs', hx, rfl⟩ | hk)
    · unfold updF at hx
      split at hx
      · rename_i e; subst e; exact .inr (Env.upd_same _ _ _)
      · rename_i e; rw [Env.upd_ne E _ e]; exact .inl (.inl ⟨g', t', cs', hx, rfl⟩)
    · exact .inl (.inr hk)
  have hne : ∀ g' x, bf g' = some x → g' ≠ g := fun g' x hx e => by subst e; rw [hg] at hx; cases hx
  have hap : ∀ k, k < w.heap.size → Apart X.w0.heap.size X.R bf grs E k → Apart X.w0.heap.size X.R (updF bf g (.blk t cs)) grs (E.upd g w.heap.size) k := fun k hk h1 => ⟨fun ho => by
    rcases hold k ho with h2 | h2
    · exact h1.1 h2
    · omega, h1.2⟩
  refine ⟨fun k sv hk => (h.slot k sv hk).trans (by rw [SV.val_upd E g _ sv (hs k sv hk)]), h.size, h.defers, hL.kept, ⟨fun g' t' cs' hx => ?_, hL.mem.rd, hL.mem.gr, h.mem.one⟩, ⟨fun g' t' cs' hx => ?_, fun g1 g2 t1 t2 c1 c2 h1 h2 e => ?_, h.sep.ginj, fun g' k t' cs' y hx hy => ?_, fun s q b off hq hl hA => hap b (h.rdlt hq hl hA) (h.sep.rd s q b off hq hl hA), fun g' Φ hx => ?_⟩, fun k hk => (Env.upd_ne E _ (by omega)).trans (h.pin.1 k hk), h.pin.2⟩
  · unfold updF at hx
    split at hx
    · rename_i e
      subst e
      simp only [Option.some.injEq, BE.blk.injEq] at hx
      obtain ⟨rfl, rfl⟩ := hx
      rw [Env.upd_same, SV.vals_upd E g' _ cs hc]
      exact Blk.new _ _ _
    · rename_i e
      rw [Env.upd_ne E _ e, SV.vals_upd E g _ cs' (hb g' _ hx)]
      exact hL.mem.blk g' t' cs' hx
  · unfold updF at hx
    split at hx
    · rename_i e; subst e; rw [Env.upd_same]; exact .inl h.size0
    · rename_i e; rw [Env.upd_ne E _ e]; exact h.sep.base g' t' cs' hx
  · have lt : ∀ g' t' cs', bf g' = some (.blk t' cs') → E.ρ g' < w.heap.size := fun g' t' cs' hx => (h.mem.blk g' t' cs' hx).lt
    unfold updF at h1 h2
    split at h1 <;> split at h2
    · omega
    · rename_i e1 e2; subst e1; rw [Env.upd_same, Env.upd_ne E _ e2] at e; have := lt g2 _ _ h2; omega
    · rename_i e1 e2; subst e2; rw [Env.upd_same, Env.upd_ne E _ e1] at e; have := lt g1 _ _ h1; omega
    · rename_i e1 e2; rw [Env.upd_ne E _ e1, Env.upd_ne E _ e2] at e; exact h.sep.inj g1 g2 _ _ _ _ h1 h2 e
  · have hgl : ∀ b, (E.gr k).ownBlock = some b → b < w.heap.size := fun b hb => (World.ownsRow.lt (h.mem.gr k y hy) b hb).2
    unfold updF at hx
    split at hx
    · rename_i e; subst e; rw [Env.upd_same]; intro he; have := hgl _ he; omega
    · rename_i e; rw [Env.upd_ne E _ e]; exact h.sep.mix g' k _ _ y hx hy
  · unfold updF at hx
    split at hx
    · simp at hx
    · exact ((h.sep.held g' Φ hx).mono hap).later ((Below.refl _ _).alloc (Nat.le_refl _) _)

theorem heap_setRow_ne (w : World) (g k : Nat) (cs : Array Value) (h : k ≠ g) : (w.setRow g cs).heap[k]? = w.heap[k]? := by
  simp only [World.setRow, Array.getElem?_modify]
  rw [if_neg (fun e => h e.symm)]
/-- a block is written -/
theorem StF.store (h : StF X sf bf rds grs E a w) {g : Nat} {t : TypeId} {cs : List SV} (hg : bf g = some (.blk t cs)) (cs' : List SV) : StF X sf (updF bf g (.blk t cs')) rds grs E a (w.setRow (E.ρ g) (SV.vals E cs').toArray) := by
  have hk : Kept (fun k => k = E.ρ g) w (w.setRow (E.ρ g) (SV.vals E cs').toArray) := ⟨rfl, rfl, rfl, by simp [World.setRow], fun k _ hn => heap_setRow_ne _ _ _ _ hn⟩
  have hown : OwnB bf grs E (E.ρ g) := .inl ⟨g, _, _, hg, rfl⟩
  have hold : ∀ k, OwnB (updF bf g (.blk t cs')) grs E k → OwnB bf grs E k := by
    rintro k (⟨g', t2, c2, hx, rfl⟩ | hk)
    · unfold updF at hx
      split at hx
      · rename_i e; subst e; exact hown
      · exact .inl ⟨g', t2, c2, hx, rfl⟩
    · exact .inr hk
  have hap : ∀ k, Apart X.w0.heap.size X.R bf grs E k → Apart X.w0.heap.size X.R (updF bf g (.blk t cs')) grs E k := fun k h1 => ⟨fun ho => h1.1 (hold k ho), h1.2⟩
  have hne : ∀ k, k < X.w0.heap.size → ¬ X.C k → k ≠ E.ρ g := fun k hlt hC e => by
    subst e
    rcases h.sep.base g _ _ hg with h1 | h1
    · omega
    · exact hC h1
  have hbn : ∀ k, k ≠ E.ρ g → (w.setRow (E.ρ g) (SV.vals E cs').toArray).heap[k]? = w.heap[k]? := fun k hk => heap_setRow_ne _ _ _ _ hk
  have hapn : ∀ k, Apart X.w0.heap.size X.R bf grs E k → k ≠ E.ρ g := fun k h1 e => h1.1 (e ▸ hown)
  refine ⟨h.slot, h.size, h.defers, ⟨h.kept.os, h.kept.tape, h.kept.output, Nat.le_trans h.kept.size hk.size, fun k hlt hC => (hbn k (hne k hlt hC)).trans (h.kept.block k hlt hC)⟩, ⟨fun g' t' c hx => ?_, fun s q hq => (h.mem.rd s q hq).move hk.size fun b off hl hA _ => hbn b (hapn b (h.sep.rd s q b off hq hl hA)),
    fun k q hq => (h.mem.gr k q hq).move fun b hb => hbn b (fun e => h.sep.mix g k _ _ q hg hq (by rw [hb, e])), h.mem.one⟩, ⟨fun g' t' c' hx => ?_, fun g1 g2 t1 t2 c1 c2 h1 h2 e => ?_, h.sep.ginj, fun g' k t' c' y hx hy => ?_, fun s q b off hq hl hA => hap b (h.sep.rd s q b off hq hl hA), fun g' Φ hx => ?_⟩, h.pin⟩
  · unfold updF at hx
    split at hx
    · rename_i e
      subst e
      simp only [Option.some.injEq, BE.blk.injEq] at hx
      obtain ⟨rfl, rfl⟩ := hx
      exact setRow_heap w _ _ _ _ _ (h.mem.blk g' _ _ hg)
    · rename_i e
      have := h.mem.blk g' t' c hx
      unfold Blk at this ⊢
      rw [hbn _ (fun e' => e (h.sep.inj g' g _ _ _ _ hx hg e'))]
      exact this
  · unfold updF at hx
    split at hx
    · rename_i e; subst e; exact h.sep.base g' _ _ hg
    · exact h.sep.base g' _ _ hx
  · unfold updF at h1 h2
    split at h1 <;> split at h2
    · omega
    · rename_i e1 e2; subst e1; exact h.sep.inj _ _ _ _ _ _ hg h2 e
    · rename_i e1 e2; subst e2; exact h.sep.inj _ _ _ _ _ _ h1 hg e
    · exact h.sep.inj _ _ _ _ _ _ h1 h2 e
  · unfold updF at hx
    split at hx
    · rename_i e; subst e; exact h.sep.mix g' k _ _ y hg hy
    · exact h.sep.mix g' k _ _ y hx hy
  · unfold updF at hx
    split at hx
    · simp at hx
    · exact ((h.sep.held g' Φ hx).mono fun k _ h1 => hap k h1).move hk.size fun k _ h1 => hbn k (fun e => h1.1 (by
        subst e
        exact .inl ⟨g, t, cs', by simp [updF], rfl⟩))

/-- letters come in -/
theorem StF.letter (h : StF X sf bf rds grs E a w) {g : Nat} (hlt : g < 1000) (hg : bf g = none) (hs : ∀ t sv, sf t = some sv → sv.free g = true) (hb : ∀ g' y, bf g' = some y → y.free g = true)
    (Φ : (Nat → Value) → World → Prop) (v : Nat → Value) (h1 : ∀ i, (v i).oneCell' = true) (hh : HeldIn (Apart X.w0.heap.size X.R bf grs E) w (Φ v)) : StF X sf (updF bf g (.held Φ)) rds grs (E.updX g v) a w := by
  have hold : ∀ k, OwnB (updF bf g (.held Φ)) grs (E.updX g v) k → OwnB bf grs E k := by
    rintro k (⟨g', t', cs', hx, rfl⟩ | hk)
    · unfold updF at hx
      split at hx
      · simp at hx
      · exact .inl ⟨g', t', cs', hx, rfl⟩
    · exact .inr hk
  have hap : ∀ k, k < w.heap.size → Apart X.w0.heap.size X.R bf grs E k → Apart X.w0.heap.size X.R (updF bf g (.held Φ)) grs (E.updX g v) k := fun k _ h1 => ⟨fun ho => h1.1 (hold k ho), h1.2⟩
  have hu : ∀ {g' t' cs'}, updF bf g (.held Φ) g' = some (.blk t' cs') → bf g' = some (.blk t' cs') := fun {g' t' cs'} hx => by
    unfold updF at hx
    split at hx
    · simp at hx
    · exact hx
  refine ⟨fun k sv hk => (h.slot k sv hk).trans (by rw [SV.val_but (Env.updX_but E g v) sv (hs k sv hk)]), h.size, h.defers, h.kept, ⟨fun g' t' cs' hx => ?_, h.mem.rd, h.mem.gr, fun g' i => ?_⟩,
    ⟨fun g' t' cs' hx => h.sep.base g' t' cs' (hu hx), fun g1 g2 t1 t2 c1 c2 h1 h2 e => h.sep.inj g1 g2 _ _ _ _ (hu h1) (hu h2) e, h.sep.ginj, fun g' k t' cs' y hx hy => h.sep.mix g' k _ _ y (hu hx) hy, fun s q b off hq hl hA => hap b (h.rdlt hq hl hA) (h.sep.rd s q b off hq hl hA), fun g' Φ' hx => ?_⟩, h.pin.1, h.pin.2.1, fun k hk => (Env.updX_ne E v (by omega)).trans (h.pin.2.2 k hk)⟩
  · rw [SV.vals_but (Env.updX_but E g v) cs' (hb g' _ (hu hx))]
    exact h.mem.blk g' t' cs' (hu hx)
  · by_cases e : g' = g
    · subst e; rw [Env.updX_same]; exact h1 i
    · rw [Env.updX_ne E v e]; exact h.mem.one g' i
  · unfold updF at hx
    split at hx
    · rename_i e
      subst e
      simp only [Option.some.injEq, BE.held.injEq] at hx
      subst hx
      rw [Env.updX_same]
      exact hh.mono hap
    · rename_i e
      rw [Env.updX_ne E v e]
      exact (h.sep.held g' Φ' hx).mono hap
end Go.Proofs.Ytlcccomdijdkaaa
namespace Go.Proofs.Ytlcccomdijdkaaa
open Go.RowKit

variable {P : Program} {X : Ctx} {sf : Nat → Option SV} {bf : BF} {rds : List (Nat × Q)} {grs : List (Nat × GQ)} {E : Env} {a : Act} {w : World}

/-- what an operation leaves: a slot, a block -/
structure TI where
  dst : Option Nat
  sv : SV
  blk : Option (Nat × BE)
  new : Bool
def wantB (ops : List Oper) (σ : List (Nat × SV)) (o : Oper) : Option Bool := match o.guard with
  | none => some true
  | some (j, want) => match ops[j]? with
    | some oj => match oj.dst with
      | some d => match look σ d with
        | some (.v (.bool b)) => some (match b, want with | true, true => true | false, false => true | _, _ => false)
        | _ => none
      | none => none
    | none => none
def freshS (g : Nat) : List (Nat × SV) → Bool
  | [] => true
  | (_, x) :: r => x.free g && freshS g r
def freshBl (g : Nat) : List (Nat × BE) → Bool
  | [] => true
  | (k, y) :: r => !Nat.beq k g && y.free g && freshBl g r
def castTI (h : Hint) (dst : Option Nat) (sv : SV) (blk : Option (Nat × BE)) (new : Bool) (obs : List Ob) : TI × List Ob := match h.cast with
  | some sv' => (⟨dst, sv', blk, new⟩, .eq sv sv' :: obs)
  | none => (⟨dst, sv, blk, new⟩, obs)
def wcSV : SV → Bool → Option Bool
  | .v (.bool b), true => some b
  | .v (.bool b), false => some (!b)
  | .gd _ _ W x, want => match wcSV x want with
    | some b => some (W && b)
    | none => none
  | _, _ => none
/-- an open guard: its slot, what it wants, whether it is so -/
def wantO (ops : List Oper) (σ : List (Nat × SV)) (o : Oper) : Option (Nat × Bool × Bool) := match o.guard with
  | some (j, want) => match ops[j]? with
    | some oj => match oj.dst with
      | some d => match look σ d with
        | some x => match wcSV x want with
          | some W => some (d, want, W)
          | none => none
        | none => none
      | none => none
    | none => none
  | none => none
def projL (d : Nat) (want W : Bool) : List (Nat × SV) → List (Nat × SV)
  | [] => []
  | (t, x) :: r => (t, (projSV d want W x).1) :: projL d want W r
def projOb (d : Nat) (want W : Bool) (σ : List (Nat × SV)) : List Operand → List Ob
  | [] => []
  | .tmp t :: r => (match look σ t with | some x => (projSV d want W x).2 | none => []) ++ projOb d want W σ r
  | _ :: r => projOb d want W σ r
def whenL (W : Bool) : List Ob → List Ob
  | [] => []
  | o :: r => .when W o :: whenL W r
def effS (ops : List Oper) (st : SState) (o : Oper) (h : Hint) : List (Nat × SV) := match h.og with
  | true => match wantO ops st.slots o with
    | some (d, want, W) => projL d want W st.slots
    | none => st.slots
  | false => st.slots
def itemOpen (lay : Lay) (ops : List Oper) (st : SState) (o : Oper) (h : Hint) : Option (TI × List Ob) := match wantO ops st.slots o with
  | some (d, want, W) => match evalOp lay (projL d want W st.slots) st.m h o.op with
    | some (.val sv, obs) => some (⟨o.dst, .gd d want W (castTI h o.dst sv none false obs).1.sv, none, false⟩, projOb d want W st.slots o.op.operands.toList ++ whenL W (castTI h o.dst sv none false obs).2)
    | some (.call _ _ res, obs) => some (⟨o.dst, .gd d want W (castTI h o.dst res none false obs).1.sv, none, false⟩, projOb d want W st.slots o.op.operands.toList ++ whenL W (castTI h o.dst res none false obs).2)
    | _ => none
  | none => none
def itemShut (lay : Lay) (ops : List Oper) (st : SState) (o : Oper) (h : Hint) : Option (TI × List Ob) := match wantB ops st.slots o with
  | some false => some (⟨o.dst, .v undef, none, false⟩, [])
  | some true => match evalOp lay st.slots st.m h o.op with
    | some (.val sv, obs) => some (castTI h o.dst sv none false obs)
    | some (.new t cs sv, obs) => match freshS h.g st.slots && freshBl h.g st.m.blks && SV.frees h.g cs && Nat.blt h.g 1000 with
      | true => some (castTI h o.dst sv (some (h.g, .blk t cs)) true obs)
      | false => none
    | some (.sto g off t cs xs, obs) => some (⟨o.dst, .v undef, some (g, .blk t (cs.take off ++ xs ++ cs.drop (off + xs.length))), false⟩, obs)
    | some (.call _ _ res, obs) => some (castTI h o.dst res none false obs)
    | some (.callx _ _ res Φ, obs) => match freshS h.g st.slots && freshBl h.g st.m.blks && Nat.blt h.g 1000 with
      | true => some (castTI h o.dst res (some (h.g, .held Φ)) true obs)
      | false => none
    | some (.ext res Φ, obs) => match freshS h.g st.slots && freshBl h.g st.m.blks && Nat.blt h.g 1000 with
      | true => some (castTI h o.dst res (some (h.g, .held Φ)) true obs)
      | false => none
    | none => none
  | none => none
def itemOf (lay : Lay) (ops : List Oper) (st : SState) (o : Oper) (h : Hint) : Option (TI × List Ob) := match h.og with
  | true => itemOpen lay ops st o h
  | false => itemShut lay ops st o h
def putF (sf : Nat → Option SV) (dst : Option Nat) (sv : SV) : Nat → Option SV := match dst with
  | some d => updF sf d sv
  | none => sf
def blkF (bf : BF) (b : Option (Nat × BE)) : BF := match b with
  | some (g, y) => updF bf g y
  | none => bf

theorem StF.putD (h : StF X sf bf rds grs E a w) {dst : Option Nat} (hd : ∀ d, dst = some d → d < X.n) (sv : SV) : StF X (putF sf dst sv) bf rds grs E (a.put dst (sv.val E)) w := by
  cases dst with
  | none => exact h
  | some d => exact h.put (hd d rfl) sv
theorem freshS_ok {g : Nat} : ∀ {l : List (Nat × SV)}, freshS g l = true → ∀ t sv, look l t = some sv → sv.free g = true
  | [], _, t, sv, h => by simp [look] at h
  | (k, x) :: r, hf, t, sv, h => by
    simp only [freshS, Bool.and_eq_true] at hf
    rcases look_cases h with ⟨_, rfl⟩ | ⟨_, h2⟩
    · exact hf.1
    · exact freshS_ok hf.2 t sv h2
theorem freshBl_ok {g : Nat} : ∀ {l : List (Nat × BE)}, freshBl g l = true → look l g = none ∧ ∀ k y, look l k = some y → y.free g = true
  | [], _ => ⟨rfl, fun k y h => by simp [look] at h⟩
  | (k, x) :: r, hf => by
    simp only [freshBl, Bool.and_eq_true, Bool.not_eq_true'] at hf
    obtain ⟨i1, i2⟩ := freshBl_ok hf.2
    have hk : k ≠ g := fun e => by subst e; simp at hf
    refine ⟨by rw [look_ne hk]; exact i1, fun k' y h => ?_⟩
    rcases look_cases h with ⟨_, e⟩ | ⟨_, h2⟩
    · rw [← e]
      exact hf.1.2
    · exact i2 k' y h2

theorem mem_looksAt {ops : Array Oper} {o : Oper} {t : Nat} (h : Operand.tmp t ∈ o.op.operands) : t ∈ o.looksAt ops :=
  List.mem_append_left _ (List.mem_filterMap.2 ⟨.tmp t, by simpa using h, rfl⟩)
theorem guard_looksAt {ops : Array Oper} {o oj : Oper} {j d : Nat} {want : Bool} (h : o.guard = some (j, want)) (hj : ops[j]? = some oj) (hd : oj.dst = some d) : d ∈ o.looksAt ops := by
  refine List.mem_append_right _ ?_
  rw [h]
  simp [hj, hd]

theorem restr_sub (fp : List Nat) : ∀ (l : List (Nat × BE)) (g : Nat) (x : BE), look (restr fp l) g = some x → look l g = some x ∧ g ∈ fp
  | [], g, x, h => by simp [restr, look] at h
  | (k, y) :: r, g, x, h => by
    simp only [restr] at h
    cases hb : fp.any (Nat.beq k) with
    | true =>
      rw [hb] at h
      simp only [cond_true] at h
      rcases look_cases h with ⟨rfl, rfl⟩ | ⟨hne, h2⟩
      · refine ⟨look_same _ _ _, ?_⟩
        obtain ⟨z, hz, he⟩ := List.any_eq_true.1 hb
        have := Nat.eq_of_beq_eq_true he
        subst this
        exact hz
      · rw [look_ne hne]
        exact restr_sub fp r g x h2
    | false =>
      rw [hb] at h
      simp only [cond_false] at h
      obtain ⟨h1, h2⟩ := restr_sub fp r g x h
      have hne : k ≠ g := fun e => by
        subst e
        have : fp.any (Nat.beq k) = true := List.any_eq_true.2 ⟨k, h2, by simp⟩
        rw [hb] at this
        cases this
      rw [look_ne hne]
      exact ⟨h1, h2⟩

theorem evalOp0_call {lay : Lay} {σ : List (Nat × SV)} {m : MState} {h : Hint} {op : Op} {f : Nat} {args : List SV} {res : SV} {obs : List Ob} (he : evalOp0 lay σ m h op = some (.call f args res, obs)) :
    obs = [.call (m.foot h.fp) f args res] ∧ touches0 σ h op = h.fp := by
  cases op <;> simp only [evalOp0, reduceCtorEq] at he
  case call c =>
    obtain ⟨callee, ar, ts⟩ := c
    cases callee with
    | value y =>
      simp only at he
      split at he
      · split at he
        · split at he <;> simp only [Option.some.injEq, Prod.mk.injEq, Out.call.injEq, reduceCtorEq, false_and] at he
          obtain ⟨⟨rfl, rfl, rfl⟩, rfl⟩ := he
          exact ⟨rfl, rfl⟩
        · cases he
      · split at he <;> simp only [Option.some.injEq, Prod.mk.injEq, Out.call.injEq, reduceCtorEq, false_and] at he
        obtain ⟨⟨rfl, rfl, rfl⟩, rfl⟩ := he
        exact ⟨rfl, rfl⟩
      · cases he
    | invoke y n => simp at he
    | builtin b =>
      exfalso
      cases b <;> simp only [reduceCtorEq] at he
      all_goals (repeat' (first | (split at he) | (cases he; done)))
  case unOp op t x => exfalso; cases op <;> simp only [reduceCtorEq] at he <;> repeat' (first | (split at he) | (cases he; done))
  case makeFunc fn first cap => exfalso; cases fn <;> simp only [reduceCtorEq] at he <;> repeat' (first | (split at he) | (cases he; done))
  all_goals (exfalso; repeat' (first | (split at he) | (cases he; done)))
theorem evalOp0_callx {lay : Lay} {σ : List (Nat × SV)} {m : MState} {h : Hint} {op : Op} {f : Nat} {args : List SV} {res : SV} {Φ : (Nat → Value) → World → Prop} {obs : List Ob} (he : evalOp0 lay σ m h op = some (.callx f args res Φ, obs)) :
    obs = [.callx (m.foot h.fp) h.g f args res Φ] ∧ touches0 σ h op = h.fp := by
  cases op <;> simp only [evalOp0, reduceCtorEq] at he
  case call c =>
    obtain ⟨callee, ar, ts⟩ := c
    cases callee with
    | value y =>
      simp only at he
      split at he
      · split at he
        · split at he <;> simp only [Option.some.injEq, Prod.mk.injEq, Out.callx.injEq, reduceCtorEq, false_and] at he
          obtain ⟨⟨rfl, rfl, rfl, rfl⟩, rfl⟩ := he
          exact ⟨rfl, rfl⟩
        · cases he
      · split at he <;> simp only [Option.some.injEq, Prod.mk.injEq, Out.callx.injEq, reduceCtorEq, false_and] at he
        obtain ⟨⟨rfl, rfl, rfl, rfl⟩, rfl⟩ := he
        exact ⟨rfl, rfl⟩
      · cases he
    | invoke y n => simp at he
    | builtin b =>
      exfalso
      cases b <;> simp only [reduceCtorEq] at he
      all_goals (repeat' (first | (split at he) | (cases he; done)))
  case unOp op t x => exfalso; cases op <;> simp only [reduceCtorEq] at he <;> repeat' (first | (split at he) | (cases he; done))
  case makeFunc fn first cap => exfalso; cases fn <;> simp only [reduceCtorEq] at he <;> repeat' (first | (split at he) | (cases he; done))
  all_goals (exfalso; repeat' (first | (split at he) | (cases he; done)))

theorem evalOp_call {lay : Lay} {σ : List (Nat × SV)} {m : MState} {h : Hint} {op : Op} {f : Nat} {args : List SV} {res : SV} {obs : List Ob} (he : evalOp lay σ m h op = some (.call f args res, obs)) :
    (∃ rest, obs = .call (m.foot h.fp) f args res :: rest) ∧ touches σ h op = h.fp := by
  rcases evalOp_cases he with ⟨r, xs, e1, e2, (⟨_, e, _⟩ | ⟨Φ, _, e, _⟩)⟩ | ⟨f', args', xs, e1, e2, e, rfl⟩ | ⟨e1, e2, e3⟩
  · cases e
  · cases e
  · cases e
    exact ⟨⟨_, rfl⟩, touches_pf e1⟩
  · obtain ⟨h1, h2⟩ := evalOp0_call e3
    exact ⟨⟨[], h1⟩, (touches_0 e1 e2).trans h2⟩
theorem evalOp_callx {lay : Lay} {σ : List (Nat × SV)} {m : MState} {h : Hint} {op : Op} {f : Nat} {args : List SV} {res : SV} {Φ : (Nat → Value) → World → Prop} {obs : List Ob} (he : evalOp lay σ m h op = some (.callx f args res Φ, obs)) :
    obs = [.callx (m.foot h.fp) h.g f args res Φ] ∧ touches σ h op = h.fp := by
  rcases evalOp_cases he with ⟨r, xs, e1, e2, (⟨_, e, _⟩ | ⟨Φ', _, e, _⟩)⟩ | ⟨f', args', xs, e1, e2, e, rfl⟩ | ⟨e1, e2, e3⟩
  · cases e
  · cases e
  · cases e
  · obtain ⟨h1, h2⟩ := evalOp0_callx e3
    exact ⟨h1, (touches_0 e1 e2).trans h2⟩
theorem evalOp_sto {lay : Lay} {σ : List (Nat × SV)} {m : MState} {h : Hint} {op : Op} {g off : Nat} {t : TypeId} {cs xs : List SV} {obs : List Ob} (he : evalOp lay σ m h op = some (.sto g off t cs xs, obs)) : touches σ h op = touches0 σ h op ∧ evalOp0 lay σ m h op = some (.sto g off t cs xs, obs) := by
  rcases evalOp_cases he with ⟨r, xs, e1, e2, (⟨_, e, _⟩ | ⟨Φ', _, e, _⟩)⟩ | ⟨f', args', xs, e1, e2, e, rfl⟩ | ⟨e1, e2, e3⟩
  · cases e
  · cases e
  · cases e
  · exact ⟨touches_0 e1 e2, e3⟩

theorem shut_sound {lay : Lay} (hl : LayOK P lay) {ops : List Oper} {st : SState} {o : Oper} {h : Hint} {x : TI} {obs : List Ob} (hi : itemShut lay ops st o h = some (x, obs)) (ho : AllOb P X.w0.heap.size obs)
    (S : StF X sf bf st.m.rds st.m.grs E a w) (hop : ∀ t ∈ o.looksAt ops.toArray, sf t = look st.slots t) (hbl : ∀ g ∈ touches st.slots h o.op, bf g = look st.m.blks g)
    (hnew : ∀ g y, x.blk = some (g, y) → x.new = true → bf g = none ∧ (∀ t sv, sf t = some sv → sv.free g = true) ∧ ∀ g' y, bf g' = some y → y.free g = true)
    (hsto : ∀ g y, x.blk = some (g, y) → x.new = false → ∃ t cs cs', y = .blk t cs ∧ bf g = some (.blk t cs') ∧ g ∈ touches st.slots h o.op)
    (hd : ∀ d, o.dst = some d → d < X.n) {K : Act → World → Prop} {Q : Exit → Act → World → Prop}
    (hK : ∀ E' a' w', StF X (putF sf x.dst x.sv) (blkF bf x.blk) st.m.rds st.m.grs E' a' w' → K a' w') :
    if Region.wanted o (yielded ops.toArray a.tmps) then o.wp P a w K Q else K (a.put o.dst undef) w := by
  have hwant : ∀ b, wantB ops st.slots o = some b → Region.wanted o (yielded ops.toArray a.tmps) = b := fun b hb => by
    unfold wantB at hb
    unfold Region.wanted
    cases hg : o.guard with
    | none => rw [hg] at hb; simpa using hb
    | some jw =>
      obtain ⟨j, want⟩ := jw
      rw [hg] at hb
      simp only at hb
      cases hj : ops[j]? with
      | none => rw [hj] at hb; simp at hb
      | some oj =>
        rw [hj] at hb
        simp only at hb
        cases hdj : oj.dst with
        | none => rw [hdj] at hb; simp at hb
        | some d =>
          rw [hdj] at hb
          simp only at hb
          have hj' : ops.toArray[j]? = some oj := by simpa using hj
          have hsd := hop d (guard_looksAt hg hj' hdj)
          split at hb
          · rename_i bb hbb
            rw [hbb] at hsd
            have hs := S.slot d _ hsd
            simp only [SV.val] at hs
            simp only [Option.some.injEq] at hb
            subst hb
            simp only [yielded, hj', Option.bind_some, hdj, hs]
            cases bb <;> cases want <;> rfl
          · cases hb
  have hev : ∀ y ∈ o.op.operands, ∀ sv, opnd st.slots y = some sv → a.eval y = sv.val E := fun y hy sv hsv => by
    cases y with
    | tmp t =>
      simp only [opnd] at hsv
      have := S.slot t sv ((hop t (mem_looksAt hy)).trans hsv)
      simp [Act.eval, this]
    | const v => simp [opnd] at hsv; subst hsv; rfl
    | global g => simp [opnd] at hsv; subst hsv; rfl
    | func f => simp [opnd] at hsv; subst hsv; rfl
  have hkn : Known E w st.m (touches st.slots h o.op) := ⟨fun g hg t cs hgg => S.mem.blk g t cs ((hbl g hg).trans hgg), S.mem.rd, fun k q hq => ⟨_, S.mem.gr k q hq⟩, S.mem.one⟩
  unfold itemShut at hi
  cases hw : wantB ops st.slots o with
  | none => rw [hw] at hi; simp at hi
  | some b =>
    rw [hwant b hw]
    rw [hw] at hi
    cases b with
    | false =>
      simp only [Option.some.injEq, Prod.mk.injEq] at hi
      obtain ⟨rfl, rfl⟩ := hi
      simp only [Bool.false_eq_true, if_false]
      exact hK E _ _ (S.putD hd (.v undef))
    | true =>
      simp only [if_true]
      simp only at hi
      unfold Oper.wp
      cases he : evalOp lay st.slots st.m h o.op with
      | none => rw [he] at hi; simp at hi
      | some r =>
        obtain ⟨out, obs'⟩ := r
        rw [he] at hi
        have hobs' : AllOb P X.w0.heap.size obs' := by
          cases out with
          | val sv => simp only [Option.some.injEq] at hi; unfold castTI at hi; split at hi <;> simp only [Prod.mk.injEq] at hi <;> obtain ⟨_, rfl⟩ := hi <;> first | exact ho | exact ho.2
          | new t cs sv =>
            simp only at hi
            split at hi
            · simp only [Option.some.injEq] at hi; unfold castTI at hi; split at hi <;> simp only [Prod.mk.injEq] at hi <;> obtain ⟨_, rfl⟩ := hi <;> first | exact ho | exact ho.2
            · cases hi
          | sto g off t cs xs => simp only [Option.some.injEq, Prod.mk.injEq] at hi; obtain ⟨_, rfl⟩ := hi; exact ho
          | call f args res => simp only [Option.some.injEq] at hi; unfold castTI at hi; split at hi <;> simp only [Prod.mk.injEq] at hi <;> obtain ⟨_, rfl⟩ := hi <;> first | exact ho | exact ho.2
          | callx f args res Φ =>
            simp only at hi
            split at hi
            · simp only [Option.some.injEq] at hi; unfold castTI at hi; split at hi <;> simp only [Prod.mk.injEq] at hi <;> obtain ⟨_, rfl⟩ := hi <;> first | exact ho | exact ho.2
            · cases hi
          | ext res Φ =>
            simp only at hi
            split at hi
            · simp only [Option.some.injEq] at hi; unfold castTI at hi; split at hi <;> simp only [Prod.mk.injEq] at hi <;> obtain ⟨_, rfl⟩ := hi <;> first | exact ho | exact ho.2
            · cases hi
        have hdo := evalOp_sound (a := a) hl he hev hkn hobs' (fun hp => ⟨_, S.memOf rfl rfl fun g y hg => by
            obtain ⟨h1, h2⟩ := restr_sub h.fp _ _ _ hg
            exact (hbl g (by rw [touches_some hp]; exact h2)).trans h1⟩)
        -- the value that is kept is the value that comes out
        have hcast : ∀ (sv : SV) (blk : Option (Nat × BE)) (nw : Bool), castTI h o.dst sv blk nw obs' = (x, obs) → x.dst = o.dst ∧ x.blk = blk ∧ x.new = nw ∧ ∀ E, sv.val E = x.sv.val E := fun sv blk nw hc => by
          unfold castTI at hc
          split at hc <;> simp only [Prod.mk.injEq] at hc <;> obtain ⟨rfl, rfl⟩ := hc
          · exact ⟨rfl, rfl, rfl, ho.1⟩
          · exact ⟨rfl, rfl, rfl, fun _ => rfl⟩
        cases out with
        | val sv =>
          simp only [Option.some.injEq] at hi
          obtain ⟨e1, e2, e3, e4⟩ := hcast _ _ _ hi
          simp only [DoesOut] at hdo
          rw [hdo]
          simp only [Oper.upon]
          rw [e4 E]
          have := S.putD hd x.sv
          rw [← e1] at this
          have hk := hK E (a.put x.dst (x.sv.val E)) w (by rw [e2]; exact this)
          rwa [e1] at hk
        | new t cs sv =>
          simp only at hi
          split at hi
          · rename_i hf
            simp only [Option.some.injEq] at hi
            obtain ⟨e1, e2, e3, e4⟩ := hcast _ _ _ hi
            obtain ⟨n1, n2, n3⟩ := hnew _ _ e2 e3
            simp only [Bool.and_eq_true] at hf
            have hlt : h.g < 1000 := Nat.lt_of_succ_le (Nat.le_of_ble_eq_true hf.2)
            obtain ⟨v, hv, hvE⟩ := hdo
            rw [hv]
            simp only [Oper.upon]
            have S' := (S.new hlt n1 n2 n3 t cs hf.1.2).putD hd x.sv
            rw [← e4, hvE _ (Env.upd_same _ _ _)] at S'
            have hk := hK _ _ _ (by rw [e2, e1]; exact S')
            exact hk
          · cases hi
        | sto g off t cs xs =>
          simp only [Option.some.injEq, Prod.mk.injEq] at hi
          obtain ⟨rfl, rfl⟩ := hi
          simp only [DoesOut] at hdo
          rw [hdo]
          simp only [Oper.upon]
          obtain ⟨t', c', cs', hy, hb1, hb2⟩ := hsto g _ rfl rfl
          simp only [BE.blk.injEq] at hy
          obtain ⟨rfl, rfl⟩ := hy
          have S' := (S.store hb1 (cs.take off ++ xs ++ cs.drop (off + xs.length))).putD hd (.v undef)
          refine hK E _ _ ?_
          simp only [vals_append, vals_take, vals_drop] at S'
          exact S'
        | call f args res =>
          simp only [Option.some.injEq] at hi
          obtain ⟨e1, e2, e3, e4⟩ := hcast _ _ _ hi
          -- the obligation of the call
          obtain ⟨⟨rest, rfl⟩, ht⟩ := evalOp_call he
          simp only [DoesOut] at hdo
          rw [hdo hobs'.1.1]
          simp only [Oper.upon]
          have hmem : Mem X.w0.heap.size _ (st.m.foot h.fp) E w := S.memOf rfl rfl fun g y hg => by
            obtain ⟨h1, h2⟩ := restr_sub h.fp _ _ _ hg
            exact (hbl g (by rw [ht]; exact h2)).trans h1
          refine (hobs'.1.2 E w _ hmem).mono ?_
          rintro e w' ⟨rfl, hb⟩
          have S' := (S.later hb).putD hd x.sv
          rw [← e4] at S'
          exact hK E _ _ (by rw [e2, e1]; exact S')
        | ext res Φ =>
          simp only at hi
          split at hi
          · rename_i hf
            simp only [Option.some.injEq] at hi
            obtain ⟨e1, e2, e3, e4⟩ := hcast _ _ _ hi
            obtain ⟨n1, n2, n3⟩ := hnew _ _ e2 e3
            simp only [Bool.and_eq_true] at hf
            have hlt : h.g < 1000 := Nat.lt_of_succ_le (Nat.le_of_ble_eq_true hf.2)
            obtain ⟨v, w', hr, hb, h1, hh⟩ := hdo
            rw [hr]
            simp only [Oper.upon]
            have S' := ((S.later hb).letter hlt n1 n2 n3 Φ v h1 (hh.mono fun k hk hR => ⟨fun ho => absurd (S.ltB ho) (by omega), .inl (Nat.le_trans S.size0 hR)⟩)).putD hd x.sv
            rw [← e4] at S'
            exact hK _ _ _ (by rw [e2, e1]; exact S')
          · cases hi
        | callx f args res Φ =>
          simp only at hi
          split at hi
          · rename_i hf
            simp only [Option.some.injEq] at hi
            obtain ⟨e1, e2, e3, e4⟩ := hcast _ _ _ hi
            obtain ⟨n1, n2, n3⟩ := hnew _ _ e2 e3
            simp only [Bool.and_eq_true] at hf
            have hlt : h.g < 1000 := Nat.lt_of_succ_le (Nat.le_of_ble_eq_true hf.2)
            obtain ⟨rfl, ht⟩ := evalOp_callx he
            simp only [DoesOut] at hdo
            rw [hdo hobs'.1.1]
            simp only [Oper.upon]
            have hmem : Mem X.w0.heap.size _ (st.m.foot h.fp) E w := S.memOf rfl rfl fun g y hg => by
              obtain ⟨h1, h2⟩ := restr_sub h.fp _ _ _ hg
              exact (hbl g (by rw [ht]; exact h2)).trans h1
            refine (hobs'.1.2 E w _ hmem).mono ?_
            rintro e w' ⟨v, rfl, hb, h1, hh⟩
            have S' := ((S.later hb).letter hlt n1 n2 n3 Φ v h1 (hh.mono fun k hk hR => by
              rcases hR with hR | hR
              · exact ⟨fun ho => absurd (S.ltB ho) (by omega), .inl (Nat.le_trans S.size0 hR)⟩
              · exact hR)).putD hd x.sv
            rw [← e4] at S'
            exact hK _ _ _ (by rw [e2, e1]; exact S')
          · cases hi

theorem look_projL {d : Nat} {want W : Bool} : ∀ (l : List (Nat × SV)) (t : Nat), look (projL d want W l) t = (look l t).map fun x => (projSV d want W x).1
  | [], t => rfl
  | (k, x) :: r, t => by
    by_cases h : k = t
    · subst h; simp [projL, look_same]
    · simp only [projL]; rw [look_ne h, look_ne h]; exact look_projL r t
theorem projOb_mem {B d t : Nat} {want W : Bool} {σ : List (Nat × SV)} {x : SV} : ∀ {xs : List Operand}, AllOb P B (projOb d want W σ xs) → Operand.tmp t ∈ xs → look σ t = some x → AllOb P B (projSV d want W x).2
  | [], _, h, _ => by cases h
  | y :: r, h, hm, hx => by
    rcases List.mem_cons.1 hm with rfl | hm'
    · simp only [projOb, hx] at h
      exact (AllOb.append h).1
    · clear hm
      cases y with
      | tmp t' => simp only [projOb] at h; exact projOb_mem (AllOb.append h).2 hm' hx
      | _ => exact projOb_mem (xs := r) h hm' hx
theorem whenL_ok {B : Nat} : ∀ {l : List Ob} {W : Bool}, AllOb P B (whenL W l) → W = true → AllOb P B l
  | [], _, _, _ => trivial
  | _ :: _, _, h, hW => ⟨h.1 hW, whenL_ok h.2 hW⟩
theorem wcSV_ok : ∀ {x : SV} {want W : Bool}, wcSV x want = some W → ((match x.val E with | .bool b => some b | _ => none : Option Bool) = some want ↔ W = true)
  | .v v, want, W, h => by
    cases v <;> cases want <;> simp [wcSV] at h <;> subst h <;> simp [SV.val]
  | .gd d w' W' x, want, W, h => by
    simp only [wcSV] at h
    cases hx : wcSV x want with
    | none => rw [hx] at h; simp at h
    | some b =>
      rw [hx] at h
      simp only [Option.some.injEq] at h
      subst h
      have ih := wcSV_ok hx
      cases W' with
      | true => simpa [SV.val] using ih
      | false => simp [SV.val, undef]
  | .own _ _, _, _, h => by simp [wcSV] at h
  | .sl _, _, _, h => by simp [wcSV] at h
  | .at _ _ _, _, _, h => by simp [wcSV] at h
  | .gr _, _, _, h => by simp [wcSV] at h
  | .row _ _ _ _, _, _, h => by simp [wcSV] at h
  | .sub _ _ _, _, _, h => by simp [wcSV] at h
  | .ltr _ _, _, _, h => by simp [wcSV] at h
  | .agg _, _, _, h => by simp [wcSV] at h
  | .tup _, _, _, h => by simp [wcSV] at h
  | .fn _ _, _, _, h => by simp [wcSV] at h

theorem item_sound {lay : Lay} (hl : LayOK P lay) {ops : List Oper} {st : SState} {o : Oper} {h : Hint} {x : TI} {obs : List Ob} (hi : itemOf lay ops st o h = some (x, obs)) (ho : AllOb P X.w0.heap.size obs)
    (S : StF X sf bf st.m.rds st.m.grs E a w) (hop : ∀ t ∈ o.looksAt ops.toArray, sf t = look st.slots t) (hbl : ∀ g ∈ touches (effS ops st o h) h o.op, bf g = look st.m.blks g)
    (hnew : ∀ g y, x.blk = some (g, y) → x.new = true → bf g = none ∧ (∀ t sv, sf t = some sv → sv.free g = true) ∧ ∀ g' y, bf g' = some y → y.free g = true)
    (hsto : ∀ g y, x.blk = some (g, y) → x.new = false → ∃ t cs cs', y = .blk t cs ∧ bf g = some (.blk t cs') ∧ g ∈ touches (effS ops st o h) h o.op)
    (hd : ∀ d, o.dst = some d → d < X.n) {K : Act → World → Prop} {Q : Exit → Act → World → Prop}
    (hK : ∀ E' a' w', StF X (putF sf x.dst x.sv) (blkF bf x.blk) st.m.rds st.m.grs E' a' w' → K a' w') :
    if Region.wanted o (yielded ops.toArray a.tmps) then o.wp P a w K Q else K (a.put o.dst undef) w := by
  unfold itemOf at hi
  cases hog : h.og with
  | false =>
    rw [hog] at hi
    have e : effS ops st o h = st.slots := by unfold effS; rw [hog]
    rw [e] at hbl hsto
    exact shut_sound hl hi ho S hop hbl hnew hsto hd hK
  | true =>
    rw [hog] at hi
    simp only [itemOpen] at hi
    cases hw : wantO ops st.slots o with
    | none => rw [hw] at hi; simp at hi
    | some dw =>
      obtain ⟨d, want, W⟩ := dw
      rw [hw] at hi
      simp only at hi
      have e : effS ops st o h = projL d want W st.slots := by unfold effS; rw [hog, hw]
      rw [e] at hbl
      -- whether it is wanted
      have hwant : Region.wanted o (yielded ops.toArray a.tmps) = W := by
        unfold wantO at hw
        unfold Region.wanted
        cases hg : o.guard with
        | none => rw [hg] at hw; simp at hw
        | some jw =>
          obtain ⟨j, wt⟩ := jw
          rw [hg] at hw
          simp only at hw
          cases hj : ops[j]? with
          | none => rw [hj] at hw; simp at hw
          | some oj =>
            rw [hj] at hw
            simp only at hw
            cases hdj : oj.dst with
            | none => rw [hdj] at hw; simp at hw
            | some d' =>
              rw [hdj] at hw
              simp only at hw
              have hj' : ops.toArray[j]? = some oj := by simpa using hj
              have hsd := hop d' (guard_looksAt hg hj' hdj)
              cases hx : look st.slots d' with
              | none => rw [hx] at hw; simp at hw
              | some y =>
                rw [hx] at hw hsd
                simp only at hw
                cases hwc : wcSV y wt with
                | none => rw [hwc] at hw; simp at hw
                | some W' =>
                  rw [hwc] at hw
                  simp only [Option.some.injEq, Prod.mk.injEq] at hw
                  obtain ⟨rfl, rfl, rfl⟩ := hw
                  have hs := S.slot d' _ hsd
                  have key := wcSV_ok (E := E) hwc
                  have hy : yielded ops.toArray a.tmps j = (match y.val E with | .bool b => some b | _ => none : Option Bool) := by
                    simp only [yielded, hj', Option.bind_some, hdj, hs]
                    cases y.val E <;> rfl
                  simp only [hy]
                  cases hW : W' with
                  | true => rw [key.2 hW]; simp
                  | false =>
                    rw [beq_eq_false_iff_ne]
                    intro he
                    rw [key.1 he] at hW
                    cases hW
      rw [hwant]
      cases hWW : W with
      | false =>
        -- it is not: the slot is left undefined
        have hx : x.dst = o.dst ∧ x.blk = none ∧ x.sv.val E = undef := by
          split at hi <;> simp only [Option.some.injEq, Prod.mk.injEq, reduceCtorEq] at hi
          · obtain ⟨rfl, rfl⟩ := hi; exact ⟨rfl, rfl, by simp [SV.val, hWW]⟩
          · obtain ⟨rfl, rfl⟩ := hi; exact ⟨rfl, rfl, by simp [SV.val, hWW]⟩
        simp only [Bool.false_eq_true, if_false]
        have S' := S.putD hd x.sv
        rw [hx.2.2] at S'
        exact hK E _ _ (by rw [hx.1, hx.2.1]; exact S')
      | true =>
        simp only [if_true]
        have hev : ∀ y ∈ o.op.operands, AllOb P X.w0.heap.size (projOb d want W st.slots o.op.operands.toList) → ∀ sv, opnd (projL d want W st.slots) y = some sv → a.eval y = sv.val E := fun y hy hpo sv hsv => by
          cases y with
          | tmp t =>
            simp only [opnd] at hsv
            rw [look_projL] at hsv
            cases hx : look st.slots t with
            | none => rw [hx] at hsv; simp at hsv
            | some z =>
              rw [hx] at hsv
              simp only [Option.map_some, Option.some.injEq] at hsv
              have := S.slot t z ((hop t (mem_looksAt hy)).trans hx)
              have hz : z.val E = (projSV d want W z).1.val E := projSV_ok (E := E) (d := d) (want := want) (p := W) (x := z) (by rfl) (projOb_mem hpo (by simpa using hy) hx) hWW
              rw [← hsv, ← hz]
              simp [Act.eval, this]
          | const v => simp [opnd] at hsv; subst hsv; rfl
          | global g => simp [opnd] at hsv; subst hsv; rfl
          | func f => simp [opnd] at hsv; subst hsv; rfl
        have hkn : Known E w st.m (touches (projL d want W st.slots) h o.op) := ⟨fun g hg t cs hgg => S.mem.blk g t cs ((hbl g hg).trans hgg), S.mem.rd, fun k q hq => ⟨_, S.mem.gr k q hq⟩, S.mem.one⟩
        unfold Oper.wp
        cases he : evalOp lay (projL d want W st.slots) st.m h o.op with
        | none => rw [he] at hi; simp at hi
        | some r =>
          obtain ⟨out, obs'⟩ := r
          rw [he] at hi
          have hcast : ∀ (sv : SV), AllOb P X.w0.heap.size (castTI h o.dst sv none false obs').2 → AllOb P X.w0.heap.size obs' ∧ ∀ E, sv.val E = (castTI h o.dst sv none false obs').1.sv.val E := fun sv hc => by
            unfold castTI at hc ⊢
            split at hc
            · exact ⟨hc.2, hc.1⟩
            · exact ⟨hc, fun _ => rfl⟩
          cases out with
          | val sv =>
            simp only [Option.some.injEq, Prod.mk.injEq] at hi
            obtain ⟨rfl, rfl⟩ := hi
            obtain ⟨o1, o2⟩ := AllOb.append ho
            obtain ⟨k1, k2⟩ := hcast sv (whenL_ok o2 hWW)
            have hdo := evalOp_sound (a := a) hl he (fun y hy => hev y hy o1) hkn k1 (fun hp => ⟨_, S.memOf rfl rfl fun g y hg => by
            obtain ⟨h1, h2⟩ := restr_sub h.fp _ _ _ hg
            exact (hbl g (by rw [touches_some hp]; exact h2)).trans h1⟩)
            simp only [DoesOut] at hdo
            rw [hdo]
            simp only [Oper.upon]
            have S' := S.putD hd (.gd d want W (castTI h o.dst sv none false obs').1.sv)
            simp only [SV.val, hWW, cond_true] at S'
            rw [← k2] at S'
            exact hK E _ _ (by simpa [SV.val, hWW, blkF] using S')
          | new t cs sv => simp at hi
          | sto g off t cs xs => simp at hi
          | callx f args res Φ => simp at hi
          | ext res Φ => simp at hi
          | call f args res =>
            simp only [Option.some.injEq, Prod.mk.injEq] at hi
            obtain ⟨rfl, rfl⟩ := hi
            obtain ⟨o1, o2⟩ := AllOb.append ho
            obtain ⟨k1, k2⟩ := hcast res (whenL_ok o2 hWW)
            have hdo := evalOp_sound (a := a) hl he (fun y hy => hev y hy o1) hkn k1 (fun hp => ⟨_, S.memOf rfl rfl fun g y hg => by
            obtain ⟨h1, h2⟩ := restr_sub h.fp _ _ _ hg
            exact (hbl g (by rw [touches_some hp]; exact h2)).trans h1⟩)
            obtain ⟨⟨rest, rfl⟩, ht⟩ := evalOp_call he
            simp only [DoesOut] at hdo
            rw [hdo k1.1.1]
            simp only [Oper.upon]
            have hmem : Mem X.w0.heap.size _ (st.m.foot h.fp) E w := S.memOf rfl rfl fun g y hg => by
              obtain ⟨h1, h2⟩ := restr_sub h.fp _ _ _ hg
              exact (hbl g (by rw [ht]; exact h2)).trans h1
            refine (k1.1.2 E w _ hmem).mono ?_
            rintro e w' ⟨rfl, hb⟩
            have S' := (S.later hb).putD hd (.gd d want W (castTI h o.dst res none false (Ob.call (st.m.foot h.fp) f args res :: rest)).1.sv)
            simp only [SV.val, hWW, cond_true] at S'
            rw [← k2] at S'
            exact hK E _ _ (by simpa [SV.val, hWW, blkF] using S')
end Go.Proofs.Ytlcccomdijdkaaa
namespace Go.Proofs.Ytlcccomdijdkaaa
open Go.RowKit

variable {P : Program} {X : Ctx} {E : Env} {a : Act} {w : World}

def applyTI (st : SState) (x : TI) : SState :=
  { slots := match x.dst with | some d => (d, x.sv) :: st.slots | none => st.slots
    m := match x.blk with | some (g, y) => { st.m with blks := (g, y) :: st.m.blks } | none => st.m }
def hintAt (hs : List (Nat × Hint)) (i : Nat) : Hint := match look hs i with | some h => h | none => {}
/-- what was reckoned of one operation: it, its hint, the state ahead of it, what it leaves -/
structure IT where
  o : Oper
  h : Hint
  st : SState
  x : TI
def evalOps (lay : Lay) (ops : List Oper) (hs : List (Nat × Hint)) : Nat → List Oper → SState → Option (List IT × List Ob × SState)
  | _, [], st => some ([], [], st)
  | i, o :: r, st => match itemOf lay ops st o (hintAt hs i) with
    | some (x, ob) => match evalOps lay ops hs (i + 1) r (applyTI st x) with
      | some (tr, obs, st') => some (⟨o, hintAt hs i, st, x⟩ :: tr, ob ++ obs, st')
      | none => none
    | none => none
def pickL {β : Type} : List Nat → List (Nat × β) → List (Nat × β)
  | [], _ => []
  | k :: ks, l => match look l k with
    | some x => (k, x) :: pickL ks l
    | none => pickL ks l
def evalR (lay : Lay) (ops : List Oper) (hs : List (Nat × Hint)) (ks gs : List Nat) (st : SState) : Option (SState × List Ob) := match evalOps lay ops hs 0 ops st with
  | some (_, obs, st') => some ({ slots := pickL ks st'.slots, m := { st'.m with blks := pickL gs st'.m.blks } }, obs)
  | none => none
def dstB (n : Nat) : List Oper → Bool
  | [] => true
  | o :: r => (match o.dst with | some d => Nat.blt d n | none => true) && dstB n r
theorem dstB_ok {n : Nat} : ∀ {l : List Oper}, dstB n l = true → ∀ o ∈ l, ∀ d, o.dst = some d → d < n
  | [], _, o, ho, _, _ => by cases ho
  | o' :: r, h, o, ho, d, hd => by
    simp only [dstB, Bool.and_eq_true] at h
    rcases List.mem_cons.1 ho with rfl | ho
    · rw [hd] at h; exact Nat.lt_of_succ_le (Nat.le_of_ble_eq_true h.1)
    · exact dstB_ok h.2 o ho d hd

theorem applyTI_slots (st : SState) (x : TI) : look (applyTI st x).slots = putF (look st.slots) x.dst x.sv := by
  unfold applyTI putF
  cases x.dst with
  | none => rfl
  | some d => exact look_upd _ _ _
theorem applyTI_blks (st : SState) (x : TI) : look (applyTI st x).m.blks = blkF (look st.m.blks) x.blk := by
  unfold applyTI blkF
  cases x.blk with
  | none => rfl
  | some b => exact look_upd _ _ _
theorem applyTI_rest (st : SState) (x : TI) : (applyTI st x).m.rds = st.m.rds ∧ (applyTI st x).m.grs = st.m.grs  := by
  unfold applyTI
  cases x.blk <;> exact ⟨rfl, rfl⟩
theorem pickL_sub {β : Type} : ∀ (ks : List Nat) (l : List (Nat × β)) (k : Nat) (x : β), look (pickL ks l) k = some x → look l k = some x
  | [], l, k, x, h => by simp [pickL, look] at h
  | k' :: ks, l, k, x, h => by
    simp only [pickL] at h
    cases h1 : look l k' with
    | none => rw [h1] at h; exact pickL_sub ks l k x h
    | some y =>
      rw [h1] at h
      rcases look_cases h with ⟨rfl, rfl⟩ | ⟨_, h2⟩
      · exact h1
      · exact pickL_sub ks l k x h2

theorem StF.weak {sf sf' : Nat → Option SV} {bf bf' : BF} {rds : List (Nat × Q)} {grs : List (Nat × GQ)} (h : StF X sf bf rds grs E a w)
    (h1 : ∀ t sv, sf' t = some sv → sf t = some sv) (h2 : ∀ g x, bf' g = some x → bf g = some x) : StF X sf' bf' rds grs E a w := by
  have ho : ∀ k, OwnB bf' grs E k → OwnB bf grs E k := by
    rintro k (⟨g, t, cs, hx, e⟩ | hk)
    · exact .inl ⟨g, t, cs, h2 g _ hx, e⟩
    · exact .inr hk
  have hap : ∀ k, Apart X.w0.heap.size X.R bf grs E k → Apart X.w0.heap.size X.R bf' grs E k := fun k hk => ⟨fun hb => hk.1 (ho k hb), hk.2⟩
  exact ⟨fun t sv ht => h.slot t sv (h1 t sv ht), h.size, h.defers, h.kept, ⟨fun g t cs hg => h.mem.blk g t cs (h2 g _ hg), h.mem.rd, h.mem.gr, h.mem.one⟩,
    ⟨fun g t cs hg => h.sep.base g t cs (h2 g _ hg), fun g g' t t' c c' hx hy => h.sep.inj g g' t t' c c' (h2 g _ hx) (h2 g' _ hy), h.sep.ginj, fun g k t cs y hx => h.sep.mix g k t cs y (h2 g _ hx), fun s q b off hq hl hA => hap b (h.sep.rd s q b off hq hl hA),
      fun g Φ hΦ => (h.sep.held g Φ (h2 g _ hΦ)).mono fun k _ => hap k⟩, h.pin⟩

theorem itemOf_new {lay : Lay} {ops : List Oper} {st : SState} {o : Oper} {h : Hint} {x : TI} {obs : List Ob} (hi : itemOf lay ops st o h = some (x, obs)) :
    x.dst = o.dst ∧ (∀ g y, x.blk = some (g, y) → x.new = true → freshS g st.slots = true ∧ freshBl g st.m.blks = true) ∧ (∀ g y, x.blk = some (g, y) → x.new = false → ∃ t cs cs', y = .blk t cs ∧ look st.m.blks g = some (.blk t cs') ∧ g ∈ touches (effS ops st o h) h o.op) := by
  unfold itemOf at hi
  cases hog : h.og with
  | true =>
    rw [hog] at hi
    simp only [itemOpen] at hi
    split at hi
    · split at hi <;> simp only [Option.some.injEq, Prod.mk.injEq, reduceCtorEq] at hi
      · obtain ⟨rfl, rfl⟩ := hi; exact ⟨rfl, (fun g y h => by cases h), (fun g y h => by cases h)⟩
      · obtain ⟨rfl, rfl⟩ := hi; exact ⟨rfl, (fun g y h => by cases h), (fun g y h => by cases h)⟩
    · cases hi
  | false =>
  rw [hog] at hi
  have eff : effS ops st o h = st.slots := by unfold effS; rw [hog]
  rw [eff]
  simp only [itemShut] at hi
  cases hw : wantB ops st.slots o with
  | none => rw [hw] at hi; simp at hi
  | some b =>
    rw [hw] at hi
    cases b with
    | false =>
      simp only [Option.some.injEq, Prod.mk.injEq] at hi
      obtain ⟨rfl, rfl⟩ := hi
      exact ⟨rfl, (fun g y h => by cases h), (fun g y h => by cases h)⟩
    | true =>
      simp only at hi
      cases he : evalOp lay st.slots st.m h o.op with
      | none => rw [he] at hi; simp at hi
      | some r =>
        obtain ⟨out, obs'⟩ := r
        rw [he] at hi
        have hcast : ∀ (sv : SV) (blk : Option (Nat × BE)) (nw : Bool), castTI h o.dst sv blk nw obs' = (x, obs) → x.dst = o.dst ∧ x.blk = blk ∧ x.new = nw := fun sv blk nw hc => by
          unfold castTI at hc
          split at hc <;> simp only [Prod.mk.injEq] at hc <;> obtain ⟨rfl, rfl⟩ := hc <;> exact ⟨rfl, rfl, rfl⟩
        cases out with
        | val sv =>
          simp only [Option.some.injEq] at hi
          obtain ⟨e1, e2, e3⟩ := hcast _ _ _ hi
          exact ⟨e1, fun g y h => (by rw [e2] at h; cases h), fun g y h => (by rw [e2] at h; cases h)⟩
        | new t cs sv =>
          simp only at hi
          split at hi
          · rename_i hf
            simp only [Option.some.injEq] at hi
            obtain ⟨e1, e2, e3⟩ := hcast _ _ _ hi
            simp only [Bool.and_eq_true] at hf
            refine ⟨e1, fun g y h _ => ?_, fun g y h hh => (by rw [e3] at hh; cases hh)⟩
            rw [e2] at h
            simp only [Option.some.injEq, Prod.mk.injEq] at h
            obtain ⟨rfl, _⟩ := h
            exact hf.1.1
          · cases hi
        | sto g off t cs xs =>
          simp only [Option.some.injEq, Prod.mk.injEq] at hi
          obtain ⟨rfl, rfl⟩ := hi
          refine ⟨rfl, (fun g y h hh => by cases hh), fun g' y' h _ => ?_⟩
          simp only [Option.some.injEq, Prod.mk.injEq] at h
          obtain ⟨rfl, rfl⟩ := h
          clear hcast hw
          obtain ⟨ht0, he⟩ := evalOp_sto he
          rw [ht0]
          cases hop : o.op <;> rw [hop] at he <;> simp only [evalOp0, reduceCtorEq] at he
          case store t x y =>
            split at he
            · rename_i d g2 off2 v h1 h2 h3
              split at he
              · rename_i ty cs2 vs h4 h5
                split at he
                · simp only [Option.some.injEq, Prod.mk.injEq, Out.sto.injEq] at he
                  obtain ⟨⟨rfl, rfl, rfl, rfl, rfl⟩, rfl⟩ := he
                  exact ⟨_, _, _, rfl, h4, by simp [touches0, h2]⟩
                · cases he
              · cases he
            · cases he
          case unOp op t x => exfalso; cases op <;> simp only [reduceCtorEq] at he <;> repeat' (first | (split at he) | (cases he; done))
          case makeFunc fn first cap => exfalso; cases fn <;> simp only [reduceCtorEq] at he <;> repeat' (first | (split at he) | (cases he; done))
          case call c =>
            exfalso
            obtain ⟨callee, ar, ts⟩ := c
            cases callee with
            | value y => simp only at he; repeat' (first | (split at he) | (cases he; done))
            | invoke y n => simp at he
            | builtin b =>
              cases b <;> simp only [reduceCtorEq] at he
              all_goals (repeat' (first | (split at he) | (cases he; done)))
          all_goals (exfalso; repeat' (first | (split at he) | (cases he; done)))
        | callx f args res Φ =>
          simp only at hi
          split at hi
          · rename_i hf
            simp only [Option.some.injEq] at hi
            obtain ⟨e1, e2, e3⟩ := hcast _ _ _ hi
            simp only [Bool.and_eq_true] at hf
            refine ⟨e1, fun g y h _ => ?_, fun g y h hh => (by rw [e3] at hh; cases hh)⟩
            rw [e2] at h
            simp only [Option.some.injEq, Prod.mk.injEq] at h
            obtain ⟨rfl, _⟩ := h
            exact hf.1
          · cases hi
        | ext res Φ =>
          simp only at hi
          split at hi
          · rename_i hf
            simp only [Option.some.injEq] at hi
            obtain ⟨e1, e2, e3⟩ := hcast _ _ _ hi
            simp only [Bool.and_eq_true] at hf
            refine ⟨e1, fun g y h _ => ?_, fun g y h hh => (by rw [e3] at hh; cases hh)⟩
            rw [e2] at h
            simp only [Option.some.injEq, Prod.mk.injEq] at h
            obtain ⟨rfl, _⟩ := h
            exact hf.1
          · cases hi
        | call f args res =>
          simp only [Option.some.injEq] at hi
          obtain ⟨e1, e2, e3⟩ := hcast _ _ _ hi
          exact ⟨e1, fun g y h => (by rw [e2] at h; cases h), fun g y h => (by rw [e2] at h; cases h)⟩

/-- the operations in the order of the text -/
theorem seq_sound {lay : Lay} (hl : LayOK P lay) {ops : List Oper} {hs : List (Nat × Hint)} {rest : List Oper} {Q : Exit → Act → World → Prop} : ∀ (l : List Oper) (i : Nat) (st : SState) (tr : List IT) (obs : List Ob) (st' : SState) (E : Env) (a : Act) (w : World),
    evalOps lay ops hs i l st = some (tr, obs, st') → AllOb P X.w0.heap.size obs → (∀ o ∈ l, ∀ d, o.dst = some d → d < X.n) → St X st E a w → (∀ E' a' w', St X st' E' a' w' → wpList P ops.toArray Q rest a' w') → wpList P ops.toArray Q (l ++ rest) a w
  | [], i, st, tr, obs, st', E, a, w, he, _, _, S, k => by
    simp only [evalOps, Option.some.injEq, Prod.mk.injEq] at he
    obtain ⟨_, _, rfl⟩ := he
    exact k E a w S
  | o :: l, i, st, tr, obs, st', E, a, w, he, ho, hd, S, k => by
    simp only [evalOps] at he
    cases hi : itemOf lay ops st o (hintAt hs i) with
    | none => rw [hi] at he; simp at he
    | some r =>
      obtain ⟨x, ob⟩ := r
      rw [hi] at he
      simp only at he
      cases hr : evalOps lay ops hs (i + 1) l (applyTI st x) with
      | none => rw [hr] at he; simp at he
      | some r2 =>
        obtain ⟨tr2, obs2, st2⟩ := r2
        rw [hr] at he
        simp only [Option.some.injEq, Prod.mk.injEq] at he
        obtain ⟨rfl, rfl, rfl⟩ := he
        obtain ⟨o1, o2⟩ := AllOb.append ho
        obtain ⟨n1, n2, n3⟩ := itemOf_new hi
        rw [List.cons_append]
        refine wpList_step fun K hK => item_sound hl hi o1 S (fun _ _ => rfl) (fun _ _ => rfl) (fun g y h1 h2 => ?_) (fun g y h1 h2 => n3 g y h1 h2) (fun d hd' => hd o (by simp) d hd') (fun E' a' w' S' => hK a' w' ?_)
        · obtain ⟨f1, f2⟩ := n2 g y h1 h2
          exact ⟨(freshBl_ok f2).1, freshS_ok f1, (freshBl_ok f2).2⟩
        · refine seq_sound hl l (i + 1) (applyTI st x) tr2 obs2 st2 E' a' w' hr o2 (fun o' ho' => hd o' (by simp [ho'])) ?_ k
          unfold St
          rw [applyTI_slots, applyTI_blks, (applyTI_rest st x).1, (applyTI_rest st x).2]
          exact S'

theorem sym_region_text {lay : Lay} (hl : LayOK P lay) {id : Nat} {ops : List Oper} (hs : List (Nat × Hint)) (ks gs : List Nat) {st : SState} (st' : SState) (obs : List Ob) {Q : Exit → Act → World → Prop} (hn : dstB X.n ops = true)
    (hev : evalR lay ops hs ks gs st = some (st', obs)) (ho : AllOb P X.w0.heap.size obs) (S : St X st E a w) (k : ∀ E' a' w', St X st' E' a' w' → Q .normal a' w') : (Code.region id ops.toArray false).wp P Q a w := by
  unfold evalR at hev
  cases h1 : evalOps lay ops hs 0 ops st with
  | none => rw [h1] at hev; simp at hev
  | some r =>
    obtain ⟨tr, obs2, st2⟩ := r
    rw [h1] at hev
    simp only [Option.some.injEq, Prod.mk.injEq] at hev
    obtain ⟨rfl, rfl⟩ := hev
    refine wp_region_lit ?_
    have := seq_sound (X := X) (Q := Q) (rest := []) hl ops 0 st tr obs2 st2 E a w h1 ho (dstB_ok hn) S (fun E' a' w' S' => k E' a' w' (S'.weak (fun t sv h => pickL_sub _ _ _ _ h) (fun g x h => pickL_sub _ _ _ _ h)))
    rwa [List.append_nil] at this
end Go.Proofs.Ytlcccomdijdkaaa
namespace Go.Proofs.Ytlcccomdijdkaaa
open Go.RowKit

variable {P : Program} {X : Ctx} {E : Env} {a : Act} {w : World}

def nthN : List Nat → Nat → Nat
  | [], _ => 0
  | x :: _, 0 => x
  | _ :: r, i + 1 => nthN r i
def edgesM (ms : List Nat) : List Edge → Nat
  | [] => 0
  | e :: r => bif Region.binds .any e then Nat.lor (Nat.lor (Nat.shiftLeft 1 e.on) (nthN ms e.on)) (edgesM ms r) else edgesM ms r
/-- of each operation: which ones surely come before it -/
def masks (ms : List Nat) : List Oper → List Nat
  | [] => ms
  | o :: r => masks (ms ++ [edgesM ms o.after.toList]) r
def edgesB (i : Nat) : List Edge → Bool
  | [] => true
  | e :: r => (!Region.binds .any e || Nat.blt e.on i) && edgesB i r
def edgesAll : Nat → List Oper → Bool
  | _, [] => true
  | i, o :: r => edgesB i o.after.toList && edgesAll (i + 1) r
def memN (x : Nat) (l : List Nat) : Bool := l.any (Nat.beq x)
def ghostOf (x : TI) : Option Nat := match x.blk with | some (g, _) => some g | none => none
def memO (x : Option Nat) (l : List Nat) : Bool := match x with | some d => memN d l | none => false
def eqO (x y : Option Nat) : Bool := match x, y with | some a, some b => Nat.beq a b | _, _ => false
def names (x : TI) (g : Nat) : Bool := !x.sv.free g || (match x.blk with | some (_, y) => !y.free g | none => false)
structure FP where
  dst : Option Nat
  look : List Nat
  g : Option Nat
  tch : List Nat
  new : Bool
def fpOf (ops : Array Oper) (t : IT) : FP := ⟨t.x.dst, t.o.looksAt ops, ghostOf t.x, touches (effS ops.toList t.st t.o t.h) t.h t.o.op, t.x.new⟩
/-- i is ahead of j: they have nothing to do with one another, or i surely comes before j -/
def pairB (mj : Nat) (i : Nat) (fi fj : FP) (xi xj : IT) : Bool :=
  (Nat.testBit mj i || !(eqO fi.dst fj.dst || memO fi.dst fj.look || memO fj.dst fi.look || eqO fi.g fj.g || memO fi.g fj.tch || memO fj.g fi.tch || (match fi.new, fi.g with | true, some g => names xj.x g | _, _ => false))) &&
  !(match fj.new, fj.g with | true, some g => names xi.x g | _, _ => false)
def pairsB (mj : Nat) (fj : FP) (xj : IT) : Nat → List (FP × IT) → Bool
  | _, [] => true
  | i, (fi, xi) :: r => pairB mj i fi fj xi xj && pairsB mj fj xj (i + 1) r
def allPairs (ms : List Nat) : Nat → List (FP × IT) → List (FP × IT) → Bool
  | _, _, [] => true
  | j, done, x :: r => pairsB (nthN ms j) x.1 x.2 0 done && allPairs ms (j + 1) (done ++ [x]) r
def initB (st : SState) : List IT → Bool
  | [] => true
  | t :: r => (match t.x.new, ghostOf t.x with | true, some g => freshS g st.slots && freshBl g st.m.blks | _, _ => true) && initB st r
theorem initB_ok {st : SState} : ∀ {l : List IT}, initB st l = true → ∀ t ∈ l, t.x.new = true → ∀ g, ghostOf t.x = some g → freshS g st.slots = true ∧ freshBl g st.m.blks = true
  | [], _, t, ht, _, _, _ => by cases ht
  | u :: r, h, t, ht, hn, g, hg => by
    simp only [initB, Bool.and_eq_true] at h
    rcases List.mem_cons.1 ht with rfl | ht
    · have := h.1
      simp only [hn, hg, Bool.and_eq_true] at this
      exact this
    · exact initB_ok h.2 t ht hn g hg
def orderB (lay : Lay) (ops : List Oper) (hs : List (Nat × Hint)) (st : SState) : Bool := match evalOps lay ops hs 0 ops st with
  | some (tr, _, _) => edgesAll 0 ops && initB st tr && allPairs (masks [] ops) 0 [] (tr.map fun t => (fpOf ops.toArray t, t))
  | none => false

/-! what the check says -/
theorem nthN_get (l : List Nat) (i : Nat) : nthN l i = l.getD i 0 := by
  induction l generalizing i with
  | nil => simp [nthN]
  | cons x r ih => cases i <;> simp [nthN, ih]
theorem edgesM_bit {ms : List Nat} : ∀ {es : List Edge} {i : Nat}, (edgesM ms es).testBit i = true → ∃ e ∈ es, Region.binds .any e = true ∧ (e.on = i ∨ (nthN ms e.on).testBit i = true)
  | [], i, h => by simp [edgesM] at h
  | e :: r, i, h => by
    simp only [edgesM] at h
    cases hb : Region.binds .any e with
    | false =>
      rw [hb] at h
      obtain ⟨e', h1, h2⟩ := edgesM_bit (es := r) h
      exact ⟨e', List.mem_cons_of_mem _ h1, h2⟩
    | true =>
      rw [hb] at h
      simp only [cond_true] at h
      have h' : ((1 <<< e.on ||| nthN ms e.on) ||| edgesM ms r).testBit i = true := h
      rw [Nat.testBit_or, Nat.testBit_or] at h'
      simp only [Bool.or_eq_true] at h'
      rcases h' with (h' | h') | h'
      · refine ⟨e, List.mem_cons_self, hb, .inl ?_⟩
        rw [Nat.testBit_shiftLeft] at h'
        simp only [Bool.and_eq_true, decide_eq_true_eq] at h'
        obtain ⟨h1, h2⟩ := h'
        have : i - e.on = 0 := by
          rcases Nat.eq_zero_or_pos (i - e.on) with h3 | h3
          · exact h3
          · have : (1 : Nat).testBit (i - e.on) = false := Nat.testBit_lt_two_pow (by have := Nat.one_lt_two_pow (show i - e.on ≠ 0 by omega); omega)
            rw [this] at h2
            cases h2
        omega
      · exact ⟨e, List.mem_cons_self, hb, .inr h'⟩
      · obtain ⟨e', h1, h2⟩ := edgesM_bit (es := r) h'
        exact ⟨e', List.mem_cons_of_mem _ h1, h2⟩
theorem masks_get : ∀ (l : List Oper) (ms : List Nat) (k : Nat), ms.length ≤ k → (masks ms l).getD k 0 = match l[k - ms.length]? with | some o => edgesM ((masks ms l).take k) o.after.toList | none => 0
  | [], ms, k, h => by
    simp only [masks]
    simp [List.getD, List.getElem?_eq_none h]
  | o :: r, ms, k, h => by
    simp only [masks]
    have pre : ∀ (l : List Oper) (ms : List Nat), ∃ t, masks ms l = ms ++ t := by
      intro l
      induction l with
      | nil => intro ms; exact ⟨[], by simp [masks]⟩
      | cons o r ih => intro ms; obtain ⟨t, ht⟩ := ih (ms ++ [edgesM ms o.after.toList]); exact ⟨[edgesM ms o.after.toList] ++ t, by simp [masks, ht]⟩
    by_cases hk : k = ms.length
    · subst hk
      obtain ⟨t, ht⟩ := pre r (ms ++ [edgesM ms o.after.toList])
      simp [ht, List.getD]
    · have := masks_get r (ms ++ [edgesM ms o.after.toList]) k (by simp; omega)
      rw [this]
      simp only [List.length_append, List.length_cons, List.length_nil]
      rw [show k - ms.length = (k - (ms.length + (0 + 1))) + 1 by omega, List.getElem?_cons_succ]
theorem edgesB_ok {i : Nat} : ∀ {es : List Edge}, edgesB i es = true → ∀ e ∈ es, Region.binds .any e = true → e.on < i
  | [], _, e, he, _ => by cases he
  | e' :: r, h, e, he, hb => by
    simp only [edgesB, Bool.and_eq_true, Bool.or_eq_true, Bool.not_eq_true'] at h
    rcases List.mem_cons.1 he with rfl | he
    · rcases h.1 with h1 | h1
      · rw [hb] at h1; cases h1
      · exact Nat.lt_of_succ_le (Nat.le_of_ble_eq_true h1)
    · exact edgesB_ok h.2 e he hb
theorem edgesAll_ok : ∀ {l : List Oper} {k : Nat}, edgesAll k l = true → ∀ j o, l[j]? = some o → edgesB (k + j) o.after.toList = true
  | [], k, _, j, o, hj => by simp at hj
  | o' :: r, k, h, j, o, hj => by
    simp only [edgesAll, Bool.and_eq_true] at h
    cases j with
    | zero => simp at hj; subst hj; exact h.1
    | succ j =>
      have := edgesAll_ok h.2 j o (by simpa using hj)
      rwa [show k + (j + 1) = k + 1 + j by omega]
/-- what is surely before j has been done, if j can be done now, or has been -/
theorem before_ok {ops : List Oper} (he : edgesAll 0 ops = true) {L : Nat → Bool} (hcl : ∀ j o, ops[j]? = some o → L j = true → ∀ e ∈ o.after.toList, Region.binds .any e = true → L e.on = true) :
    ∀ (j : Nat) (o : Oper), ops[j]? = some o → (∀ e ∈ o.after.toList, Region.binds .any e = true → L e.on = true) → ∀ i, (nthN (masks [] ops) j).testBit i = true → L i = true ∧ i < j := by
  intro j
  induction j using Nat.strongRecOn with
  | _ j ih =>
    intro o hj hr i hi
    rw [nthN_get] at hi
    have hm := masks_get ops [] j (Nat.zero_le _)
    simp only [List.length_nil, Nat.sub_zero, hj] at hm
    rw [hm] at hi
    obtain ⟨e, h1, h2, h3⟩ := edgesM_bit hi
    have hlt := edgesB_ok (by have := edgesAll_ok he j o hj; rwa [Nat.zero_add] at this) e h1 h2
    rcases h3 with rfl | h3
    · exact ⟨hr e h1 h2, hlt⟩
    · have hL := hr e h1 h2
      have hk : nthN ((masks [] ops).take j) e.on = nthN (masks [] ops) e.on := by
        rw [nthN_get, nthN_get]
        simp [List.getD, hlt]
      rw [hk] at h3
      have hlen : e.on < ops.length := by have := (List.getElem?_eq_some_iff.1 hj).1; omega
      have ho : ops[e.on]? = some ops[e.on] := by simp [hlen]
      obtain ⟨k1, k2⟩ := ih e.on hlt _ ho (hcl _ _ ho hL) i h3
      exact ⟨k1, by omega⟩

theorem pairsB_ok {mj : Nat} {fj : FP} {xj : IT} : ∀ {l : List (FP × IT)} {k : Nat}, pairsB mj fj xj k l = true → ∀ i f x, l[i]? = some (f, x) → pairB mj (k + i) f fj x xj = true
  | [], k, _, i, f, x, hi => by simp at hi
  | (f', x') :: r, k, h, i, f, x, hi => by
    simp only [pairsB, Bool.and_eq_true] at h
    cases i with
    | zero => simp at hi; obtain ⟨rfl, rfl⟩ := hi; exact h.1
    | succ i =>
      have := pairsB_ok h.2 i f x (by simpa using hi)
      rwa [show k + (i + 1) = k + 1 + i by omega]
theorem allPairs_ok {ms : List Nat} : ∀ {l done : List (FP × IT)} {k : Nat}, done.length = k → allPairs ms k done l = true → ∀ j x, l[j]? = some x → ∀ i y, i < k + j → (done ++ l)[i]? = some y → pairB (nthN ms (k + j)) i y.1 x.1 y.2 x.2 = true
  | [], done, k, _, _, j, x, hj, i, y, _, _ => by simp at hj
  | x' :: r, done, k, hd, h, j, x, hj, i, y, hi, hy => by
    simp only [allPairs, Bool.and_eq_true] at h
    cases j with
    | zero =>
      simp at hj
      subst hj
      rw [List.getElem?_append_left (by omega)] at hy
      have := pairsB_ok h.1 i y.1 y.2 hy
      rwa [Nat.zero_add] at this
    | succ j =>
      have := allPairs_ok (l := r) (done := done ++ [x']) (k := k + 1) (by simp [hd]) h.2 j x (by simpa using hj) i y (by omega) (by simpa using hy)
      rwa [show k + (j + 1) = k + 1 + j by omega]

/-! the state behind any of the operations -/
def slotsL (L : Nat → Bool) : Nat → List IT → (Nat → Option SV) → Nat → Option SV
  | _, [], f => f
  | i, t :: r, f => slotsL L (i + 1) r (if L i = true then putF f t.x.dst t.x.sv else f)
def blksL (L : Nat → Bool) : Nat → List IT → BF → BF
  | _, [], f => f
  | i, t :: r, f => blksL L (i + 1) r (if L i = true then blkF f t.x.blk else f)
theorem putF_at (f : Nat → Option SV) (d : Option Nat) (sv : SV) (t : Nat) : putF f d sv t = if d = some t then some sv else f t := by
  cases d with
  | none => simp [putF]
  | some d => simp only [putF, updF, Option.some.injEq]; by_cases h : t = d <;> simp [h, eq_comm]
theorem blkF_at (f : BF) (b : Option (Nat × BE)) (g : Nat) : blkF f b g = match b with | some (g', y) => if g' = g then some y else f g | none => f g := by
  cases b with
  | none => rfl
  | some b => obtain ⟨g', y⟩ := b; simp only [blkF, updF]; by_cases h : g = g' <;> simp [h, eq_comm]
theorem slotsL_ext {L L' : Nat → Bool} {t : Nat} : ∀ (l : List IT) (i : Nat) (f f' : Nat → Option SV), f t = f' t → (∀ k x, l[k]? = some x → x.x.dst = some t → L (i + k) = L' (i + k)) → slotsL L i l f t = slotsL L' i l f' t
  | [], i, f, f', h, _ => h
  | x :: r, i, f, f', h, hl => by
    refine slotsL_ext r (i + 1) _ _ ?_ (fun k y hy hd => by have := hl (k + 1) y (by simpa using hy) hd; rwa [show i + (k + 1) = i + 1 + k by omega] at this)
    by_cases hd : x.x.dst = some t
    · have := hl 0 x (by simp) hd
      rw [Nat.add_zero] at this
      rw [this]
      split
      · simp [putF_at, hd]
      · exact h
    · split <;> split <;> simp [putF_at, hd, h]
theorem blksL_ext {L L' : Nat → Bool} {g : Nat} : ∀ (l : List IT) (i : Nat) (f f' : BF), f g = f' g → (∀ k x, l[k]? = some x → ghostOf x.x = some g → L (i + k) = L' (i + k)) → blksL L i l f g = blksL L' i l f' g
  | [], i, f, f', h, _ => h
  | x :: r, i, f, f', h, hl => by
    refine blksL_ext r (i + 1) _ _ ?_ (fun k y hy hd => by have := hl (k + 1) y (by simpa using hy) hd; rwa [show i + (k + 1) = i + 1 + k by omega] at this)
    cases hb : x.x.blk with
    | none => split <;> split <;> simp [blkF, h]
    | some b =>
      obtain ⟨g', y⟩ := b
      by_cases hg : g' = g
      · have := hl 0 x (by simp) (by simp [ghostOf, hb, hg])
        rw [Nat.add_zero] at this
        rw [this]
        split
        · simp [blkF_at, hg]
        · exact h
      · split <;> split <;> simp [blkF_at, hg, h]
theorem slotsL_none : ∀ (l : List IT) (i : Nat) (L : Nat → Bool) (f : Nat → Option SV), (∀ k, i ≤ k → L k = false) → slotsL L i l f = f
  | [], i, L, f, _ => rfl
  | x :: r, i, L, f, h => by
    simp only [slotsL, h i (Nat.le_refl _), Bool.false_eq_true, if_false]
    exact slotsL_none r (i + 1) L f (fun k hk => h k (by omega))
theorem blksL_none : ∀ (l : List IT) (i : Nat) (L : Nat → Bool) (f : BF), (∀ k, i ≤ k → L k = false) → blksL L i l f = f
  | [], i, L, f, _ => rfl
  | x :: r, i, L, f, h => by
    simp only [blksL, h i (Nat.le_refl _), Bool.false_eq_true, if_false]
    exact blksL_none r (i + 1) L f (fun k hk => h k (by omega))
/-- of a slot: it comes from one of the operations that were done, or was there -/
theorem slotsL_from : ∀ (l : List IT) (i : Nat) (L : Nat → Bool) (f : Nat → Option SV) (t : Nat) (sv : SV), slotsL L i l f t = some sv → f t = some sv ∨ ∃ k x, l[k]? = some x ∧ L (i + k) = true ∧ x.x.sv = sv
  | [], i, L, f, t, sv, h => .inl h
  | x :: r, i, L, f, t, sv, h => by
    rcases slotsL_from r (i + 1) L _ t sv h with h1 | ⟨k, y, hy, hL, e⟩
    · split at h1
      · rename_i hL
        rw [putF_at] at h1
        split at h1
        · exact .inr ⟨0, x, by simp, by simpa using hL, by simpa using h1⟩
        · exact .inl h1
      · exact .inl h1
    · exact .inr ⟨k + 1, y, by simpa using hy, by rwa [show i + (k + 1) = i + 1 + k by omega], e⟩
theorem blksL_from : ∀ (l : List IT) (i : Nat) (L : Nat → Bool) (f : BF) (g : Nat) (y : BE), blksL L i l f g = some y → f g = some y ∨ ∃ k x, l[k]? = some x ∧ L (i + k) = true ∧ x.x.blk = some (g, y)
  | [], i, L, f, g, y, h => .inl h
  | x :: r, i, L, f, g, y, h => by
    rcases blksL_from r (i + 1) L _ g y h with h1 | ⟨k, z, hz, hL, e⟩
    · split at h1
      · rename_i hL
        rw [blkF_at] at h1
        split at h1
        · rename_i g' y' hb
          split at h1
          · rename_i hg
            subst hg
            exact .inr ⟨0, x, by simp, by simpa using hL, by rw [hb]; simpa using h1⟩
          · exact .inl h1
        · exact .inl h1
      · exact .inl h1
    · exact .inr ⟨k + 1, z, by simpa using hz, by rwa [show i + (k + 1) = i + 1 + k by omega], e⟩
/-- one more is done -/
theorem slotsL_set {L L' : Nat → Bool} {j : Nat} {xj : IT} (hj : L j = false) (hj' : L' j = true) (hL : ∀ k, k ≠ j → L' k = L k) : ∀ (l : List IT) (i : Nat) (f : Nat → Option SV), i ≤ j → l[j - i]? = some xj →
    (∀ k x, l[k]? = some x → j < i + k → L (i + k) = true → ∀ t, x.x.dst = some t → xj.x.dst ≠ some t) → slotsL L' i l f = putF (slotsL L i l f) xj.x.dst xj.x.sv
  | [], i, f, _, h, _ => by simp at h
  | x :: r, i, f, hij, h, hn => by
    by_cases e : i = j
    · subst e
      simp only [Nat.sub_self, List.getElem?_cons_zero, Option.some.injEq] at h
      subst h
      funext t
      simp only [slotsL, hj, hj', if_true, Bool.false_eq_true, if_false]
      rw [putF_at]
      by_cases ht : x.x.dst = some t
      · rw [if_pos ht]
        have : ∀ (l : List IT) (m : Nat) (f : Nat → Option SV), i < m → (∀ k y, l[k]? = some y → L' (m + k) = true → y.x.dst ≠ some t) → slotsL L' m l f t = f t := by
          intro l
          induction l with
          | nil => intro m f _ _; rfl
          | cons y l ih =>
            intro m f hm hh
            simp only [slotsL]
            rw [ih (m + 1) _ (by omega) (fun k z hz hk => hh (k + 1) z (by simpa using hz) (by rwa [show m + (k + 1) = m + 1 + k by omega]))]
            split
            · rename_i hL'
              rw [putF_at, if_neg (hh 0 y (by simp) (by simpa using hL'))]
            · rfl
        rw [this r (i + 1) _ (by omega) (fun k y hy hk hd => by
          rw [hL _ (by omega)] at hk
          exact hn (k + 1) y (by simpa using hy) (by omega) (by rwa [show i + (k + 1) = i + 1 + k by omega]) t hd ht)]
        simp [putF_at, ht]
      · rw [if_neg ht]
        refine slotsL_ext r (i + 1) _ _ (by simp [putF_at, ht]) (fun k y _ _ => hL _ (by omega))
    · simp only [slotsL]
      rw [hL i e]
      refine slotsL_set hj hj' hL r (i + 1) _ (by omega) (by rw [show j - i = (j - (i + 1)) + 1 by omega] at h; simpa using h) (fun k y hy hk hLk => ?_)
      exact hn (k + 1) y (by simpa using hy) (by omega) (by rwa [show i + (k + 1) = i + 1 + k by omega])
theorem blksL_set {L L' : Nat → Bool} {j : Nat} {xj : IT} (hj : L j = false) (hj' : L' j = true) (hL : ∀ k, k ≠ j → L' k = L k) : ∀ (l : List IT) (i : Nat) (f : BF), i ≤ j → l[j - i]? = some xj →
    (∀ k x, l[k]? = some x → j < i + k → L (i + k) = true → ∀ g, ghostOf x.x = some g → ghostOf xj.x ≠ some g) → blksL L' i l f = blkF (blksL L i l f) xj.x.blk
  | [], i, f, _, h, _ => by simp at h
  | x :: r, i, f, hij, h, hn => by
    by_cases e : i = j
    · subst e
      simp only [Nat.sub_self, List.getElem?_cons_zero, Option.some.injEq] at h
      subst h
      funext t
      simp only [blksL, hj, hj', if_true, Bool.false_eq_true, if_false]
      cases hb : x.x.blk with
      | none => simp only [blkF]; exact blksL_ext r (i + 1) _ _ rfl (fun k y _ _ => hL _ (by omega))
      | some b =>
        obtain ⟨g, y⟩ := b
        by_cases ht : g = t
        · subst ht
          have : ∀ (l : List IT) (m : Nat) (f : BF), i < m → (∀ k y, l[k]? = some y → L' (m + k) = true → ghostOf y.x ≠ some g) → blksL L' m l f g = f g := by
            intro l
            induction l with
            | nil => intro m f _ _; rfl
            | cons z l ih =>
              intro m f hm hh
              simp only [blksL]
              rw [ih (m + 1) _ (by omega) (fun k z hz hk => hh (k + 1) z (by simpa using hz) (by rwa [show m + (k + 1) = m + 1 + k by omega]))]
              split
              · rename_i hL'
                have := hh 0 z (by simp) (by simpa using hL')
                rw [blkF_at]
                cases hz : z.x.blk with
                | none => rfl
                | some b =>
                  obtain ⟨g', y'⟩ := b
                  simp only
                  rw [if_neg (fun e => this (by simp [ghostOf, hz, e]))]
              · rfl
          rw [this r (i + 1) _ (by omega) (fun k y hy hk hd => by
            rw [hL _ (by omega)] at hk
            exact hn (k + 1) y (by simpa using hy) (by omega) (by rwa [show i + (k + 1) = i + 1 + k by omega]) g hd (by simp [ghostOf, hb]))]
          simp [blkF_at]
        · rw [blkF_at]
          simp only [if_neg ht]
          exact blksL_ext r (i + 1) _ _ (by simp [blkF_at, ht]) (fun k y _ _ => hL _ (by omega))
    · simp only [blksL]
      rw [hL i e]
      refine blksL_set hj hj' hL r (i + 1) _ (by omega) (by rw [show j - i = (j - (i + 1)) + 1 by omega] at h; simpa using h) (fun k y hy hk hLk => ?_)
      exact hn (k + 1) y (by simpa using hy) (by omega) (by rwa [show i + (k + 1) = i + 1 + k by omega])
end Go.Proofs.Ytlcccomdijdkaaa
