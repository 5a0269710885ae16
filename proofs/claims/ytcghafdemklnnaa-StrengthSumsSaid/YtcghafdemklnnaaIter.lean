/- What a range over an iterator does, where the iterator may itself range over iterators: a contract of iterators that names the blocks which a round may change, and the two laws of its callers (outside of rounds, and within a round of another loop). -/
import Derived.RangeFuncNested
import Derived.RangeFuncBound
import Derived.RangeFuncCalls
import Derived.RangeFuncLeaves
import Derived.Shelf.Abstract
import Derived.Shelf.RegionOpen
import Derived.WalkKit
import Derived.OwnWalkIn
import Derived.TacticsInMore
import Derived.LoopNIn
import Derived.LoopIn
namespace Go.Proofs.Ytcghafdemklnnaa
open Go.RowKit Go.Shelf

/-- only blocks of C, and new ones, have turned -/
structure Kept (C : Nat → Prop) (a b : World) : Prop where
  os : b.os = a.os
  tape : b.tape = a.tape
  output : b.output = a.output
  size : a.heap.size ≤ b.heap.size
  block : ∀ k, k < a.heap.size → ¬ C k → b.heap[k]? = a.heap[k]?
theorem Kept.refl (C : Nat → Prop) (a : World) : Kept C a a := ⟨rfl, rfl, rfl, Nat.le_refl _, fun _ _ _ => rfl⟩
theorem Kept.trans {C : Nat → Prop} {a b c : World} (h : Kept C a b) (k : Kept C b c) : Kept C a c :=
  ⟨k.os.trans h.os, k.tape.trans h.tape, k.output.trans h.output, Nat.le_trans h.size k.size, fun i hi hc => (k.block i (Nat.lt_of_lt_of_le hi h.size) hc).trans (h.block i hi hc)⟩
theorem Kept.mono {C C' : Nat → Prop} {a b : World} (h : Kept C a b) (hc : ∀ k, C k → C' k) : Kept C' a b := ⟨h.os, h.tape, h.output, h.size, fun k hk hn => h.block k hk (fun e => hn (hc k e))⟩
theorem Kept.of_below {C : Nat → Prop} {a b : World} (h : Below a.heap.size a b) : Kept C a b := ⟨h.os, h.tape, h.output, h.size, fun k hk _ => h.block k hk⟩
theorem Kept.below {C : Nat → Prop} {a b : World} (h : Kept C a b) {B : Nat} (hB : B ≤ a.heap.size) (hC : ∀ k, C k → B ≤ k) : Below B a b :=
  ⟨h.os, h.tape, h.output, h.size, fun k hk => h.block k (by omega) (fun e => by have := hC k e; omega)⟩
theorem Kept.drew {C : Nat → Prop} {a b : World} (h : Kept C a b) : Kept C a b.drew := ⟨h.os, h.tape, h.output, h.size, h.block⟩
theorem Kept.alloc {C : Nat → Prop} {a b : World} (h : Kept C a b) (o : Obj) : Kept C a (b.alloc o) := h.trans (Kept.of_below ((Below.refl _ _).alloc (Nat.le_refl _) o))
theorem Kept.setCell {C : Nat → Prop} {a b : World} (h : Kept C a b) {p : Addr} (hp : C p.block) (u : Value) : Kept C a (b.setCell p u) :=
  h.trans ⟨rfl, rfl, rfl, by simp [World.setCell], fun k _ hn => Below.heap_setCell _ _ _ _ (fun e => hn (by rw [e]; exact hp))⟩
theorem Kept.putObj {C : Nat → Prop} {a b : World} (h : Kept C a b) {r : Nat} (hp : C r) (o : Obj) : Kept C a (b.putObj r o) :=
  h.trans ⟨rfl, rfl, rfl, by simp [World.putObj], fun k _ hn => World.putObj_heap_other (fun e => hn (by rw [e]; exact hp))⟩
theorem Kept.cell {C : Nat → Prop} {a b : World} (h : Kept C a b) {p : Addr} (hp : p.block < a.heap.size) (hc : ¬ C p.block) : b.cell? p = a.cell? p := World.cell?_of_block (w := a) (h.block p.block hp hc)
theorem below_putObj {B : Nat} (W : World) (l : Nat) (o : Obj) (hl : B ≤ l) : Below B W (W.putObj l o) := ⟨rfl, rfl, rfl, by simp [World.putObj], fun k hk => World.putObj_heap_other (by omega)⟩

/-- J speaks of blocks below B alone -/
def Stable {β : Type} (B : Nat) (J : β → World → Prop) : Prop := ∀ s a b, J s a → Below B a b → J s b
theorem Stable.mono {β : Type} {B B' : Nat} {J : β → World → Prop} (h : Stable B J) (hB : B ≤ B') : Stable B' J := fun s a b hs hb => h s a b hs (hb.mono hB)
theorem Stable.and {β : Type} {B : Nat} {J K : β → World → Prop} (h : Stable B J) (k : Stable B K) : Stable B (fun s w => J s w ∧ K s w) := fun s a b hs hb => ⟨h s a b hs.1 hb, k s a b hs.2 hb⟩
theorem stable_below {β : Type} {B C : Nat} {w : World} (hC : C ≤ B) : Stable B (fun (_ : β) W => Below C w W) := fun _ _ _ hs hb => hs.trans (hb.mono hC)
theorem stable_kept {β : Type} {B : Nat} {C : Nat → Prop} {w : World} (hB : w.heap.size ≤ B) : Stable B (fun (_ : β) W => Kept C w W) := fun _ a b hs hb =>
  ⟨hb.os.trans hs.os, hb.tape.trans hs.tape, hb.output.trans hs.output, Nat.le_trans hs.size hb.size, fun k hk hn => (hb.block k (by omega)).trans (hs.block k hk hn)⟩
theorem stable_pure {β : Type} {B : Nat} (p : β → Prop) : Stable B (fun s (_ : World) => p s) := fun _ _ _ hs _ => hs
theorem stable_boxed {β : Type} {B b : Nat} (hb : b < B) (t : TypeId) (f : β → Value) : Stable B (fun s W => Boxed W b t (f s)) := fun _ _ _ hs h => (h.block b hb).trans hs

/-- AN ITERATOR's CONTRACT: called with a yield whose rounds turn blocks of C alone (none of which it reads: D), it hands on xs, one after the other, until a round says no. -/
def SeqB {α : Type} (F : Fence) (P : Program) (g : Nat) (lb : Array Value) (encs : α → Array Value) (xs : List α) (D : Nat → Prop) (w : World) : Prop :=
  ∀ (n l : Nat) (J Jx : List α → World → Prop) (W : World) (C : Nat → Prop), Below w.heap.size w W → (∀ k, C k → k < W.heap.size) → (∀ k, D k → ¬ C k) → Stable W.heap.size J → Stable W.heap.size Jx →
    (∀ pre x rest W1, xs = pre ++ x :: rest → J pre W1 → W.heap.size ≤ W1.heap.size → ∀ m, YieldAt F m P l (encs x) W1 fun e W' =>
      Kept C W1 W' ∧ ((e = .returned (.bool true) ∧ J (pre ++ [x]) W') ∨ (e = .returned (.bool false) ∧ Jx (pre ++ [x]) W'))) →
    J [] W →
    CallsIn F n P g (#[.func (.yield l) #[] #[]] ++ lb) W fun e W' => (∃ v, e = .returned v) ∧ (J xs W' ∨ ∃ pre, pre <+: xs ∧ Jx pre W')

theorem SeqB.inRound {α : Type} {F : Fence} {P : Program} {g : Nat} {lb : Array Value} {encs : α → Array Value} {xs : List α} {D : Nat → Prop} {w : World} (l : Nat) (h : SeqB F P g lb encs xs D w) : SeqB (F.inRound l) P g lb encs xs D w := h

/-- HOW THE BODY OF A ROUND MAY BE LEFT -/
def endPost {α : Type} (C : Nat → Prop) (I : List α → World → Prop) (Ix : Code → List α → World → Prop) (xs : List α) (W : World) : Exit → Act → World → Prop
  | .normal, _, W' => Kept C W W' ∧ I xs W'
  | .ret, _, W' => Kept C W W' ∧ Ix .ret xs W'
  | .exit id, _, W' => Kept C W W' ∧ Ix (.exit id) xs W'
  | .goto t, _, W' => Kept C W W' ∧ Ix (.goto t) xs W'
  | .panic _, _, _ => False
  | .outgrown, _, _ => False

variable {F : Fence} {n : Nat} {P : Program}

/-- ONE ROUND, whichever law: the record lies at l, the activation's own blocks from B on. -/
theorem round_of {α : Type} {ps : Array Tmp} {assign body : Code} {tmps : Array Value} {l B : Nat} {rec : LoopState → Option Code → Loop} {fn : FuncId} (hfn : F.fn fn)
    (hr1 : ∀ s p, (rec s p).fn = fn ∧ (rec s p).tmps = tmps ∧ (rec s p).params = ps ∧ (rec s p).assign = assign ∧ (rec s p).body = body) (hr2 : ∀ s p s', { rec s p with state := s' } = rec s' p) (hr3 : ∀ s p s' p', { rec s p with state := s', pending := p' } = rec s' p') (hr4 : (rec .ready none).state = .ready)
    {enc : Array Value} (hps : enc.size = ps.size) {C : Nat → Prop} {I : List α → World → Prop} {Ix : Code → List α → World → Prop} (hI : Stable B I) (hIx : ∀ c, Stable B (Ix c)) (hC : ∀ k, C k → k < B) (hB : B ≤ l)
    {pre : List α} {x : α} {W : World} (hi : I pre W) (hl : W.heap[l]? = some (.loop (rec .ready none))) {m : Nat}
    (hround : ∀ K : Act → World → Prop, (∀ a₁ W₁, Below W.heap.size W W₁ → (∀ W₂, W₂.heap.size = W₁.heap.size → Kept (fun k => k = l) W₁ W₂ → (∃ r, W₂.heap[l]? = some (.loop r)) → I pre W₂ → body.wpIn (F.inRound l) m P (endPost C I Ix (pre ++ [x]) W₂) a₁ W₂) → K a₁ W₁) →
      assign.wpIn (F.inRound l) m P (Exit.then K (fun _ _ _ => False)) { tmps := (ps.zip enc).foldl (fun t (p, v) => t.setIfInBounds p v) tmps, defers := [] } W) :
    YieldAt F m P l enc W fun e W' => Kept (fun k => C k ∨ k = l) W W' ∧
      ((e = .returned (.bool true) ∧ I (pre ++ [x]) W' ∧ W'.heap[l]? = some (.loop (rec .ready none))) ∨ (e = .returned (.bool false) ∧ ∃ c, Ix c (pre ++ [x]) W' ∧ W'.heap[l]? = some (.loop (rec .done (some c))))) := by
  have hlt : l < W.heap.size := (Array.getElem?_eq_some_iff.1 hl).1
  have hy := run_yield (P := P) (args := enc) hl (by rw [(hr1 _ _).2.2.1]; exact hps)
  rw [(hr1 _ _).1, (hr1 _ _).2.1, (hr1 _ _).2.2.1, (hr1 _ _).2.2.2.1, (hr1 _ _).2.2.2.2] at hy
  refine ⟨fn, _, assign, body, hy, roundIn_of_wpIn hfn (hround _ ?_)⟩
  clear hy
  intro a₁ W₁ hb1 hbody
  have hl1 : W₁.heap[l]? = some (.loop (rec .ready none)) := (hb1.block l hlt).trans hl
  have hlt1 : l < W₁.heap.size := (Array.getElem?_eq_some_iff.1 hl1).1
  have hi1 : I pre W₁ := hI _ _ _ hi (hb1.mono (by omega))
  refine ⟨_, run_beginRound hl1 hr4, ?_⟩
  rw [hr2]
  have hl2 : (W₁.putObj l (.loop (rec .busy none))).heap[l]? = some (.loop (rec .busy none)) := World.putObj_heap_same hlt1
  have hk2 : Kept (fun k => k = l) W₁ (W₁.putObj l (.loop (rec .busy none))) := (Kept.refl (fun k => k = l) W₁).putObj (r := l) rfl _
  have hi2 : I pre (W₁.putObj l (.loop (rec .busy none))) := hI _ _ _ hi1 (below_putObj _ _ _ hB)
  refine wpIn_mono (hbody _ (by simp [World.putObj]) hk2 ⟨_, hl2⟩ hi2) ?_
  have hk02 : Kept (fun k => C k ∨ k = l) W (W₁.putObj l (.loop (rec .busy none))) := (Kept.of_below hb1).trans (hk2.mono fun k h => .inr h)
  have fin : ∀ (jump : Option Code) (W3 : World), Kept C (W₁.putObj l (.loop (rec .busy none))) W3 →
      (Instr.endRound l jump).run P W3 = .ok (.bool jump.isNone) (W3.putObj l (.loop (rec (if jump.isNone then .ready else .done) jump))) ∧
      (W3.putObj l (.loop (rec (if jump.isNone then .ready else .done) jump))).heap[l]? = some (.loop (rec (if jump.isNone then .ready else .done) jump)) ∧
      Kept (fun k => C k ∨ k = l) W (W3.putObj l (.loop (rec (if jump.isNone then .ready else .done) jump))) := fun jump W3 hk3 => by
    have hl3 : W3.heap[l]? = some (.loop (rec .busy none)) := (hk3.block l (Array.getElem?_eq_some_iff.1 hl2).1 (fun e => by have := hC l e; omega)).trans hl2
    have := run_endRound (P := P) jump hl3
    rw [hr3] at this
    exact ⟨this, World.putObj_heap_same (Array.getElem?_eq_some_iff.1 hl3).1, (hk02.trans (hk3.mono fun k h => .inl h)).putObj (.inr rfl) _⟩
  rintro e a3 W3 hp
  cases e with
  | normal =>
    obtain ⟨hk3, hi3⟩ := hp
    obtain ⟨hr, hl4, hk4⟩ := fin none W3 hk3
    exact ⟨_, _, hr, hk4, .inl ⟨rfl, hI _ _ _ hi3 (below_putObj _ _ _ hB), hl4⟩⟩
  | ret =>
    obtain ⟨hk3, hi3⟩ := hp
    obtain ⟨hr, hl4, hk4⟩ := fin (some .ret) W3 hk3
    exact ⟨_, _, hr, hk4, .inr ⟨rfl, .ret, hIx _ _ _ _ hi3 (below_putObj _ _ _ hB), hl4⟩⟩
  | exit id =>
    obtain ⟨hk3, hi3⟩ := hp
    obtain ⟨hr, hl4, hk4⟩ := fin (some (.exit id)) W3 hk3
    exact ⟨_, _, hr, hk4, .inr ⟨rfl, .exit id, hIx _ _ _ _ hi3 (below_putObj _ _ _ hB), hl4⟩⟩
  | goto t =>
    obtain ⟨hk3, hi3⟩ := hp
    obtain ⟨hr, hl4, hk4⟩ := fin (some (.goto t)) W3 hk3
    exact ⟨_, _, hr, hk4, .inr ⟨rfl, .goto t, hIx _ _ _ _ hi3 (below_putObj _ _ _ hB), hl4⟩⟩
  | panic ch => exact hp.elim
  | outgrown => exact hp.elim

/-- A RANGE OVER AN ITERATOR, outside of rounds. -/
theorem range_outer {α : Type} {g : Operand} {ps : Array Tmp} {assign body : Code} {Q : Exit → Act → World → Prop} {a : Act} {w : World}
    (hro : F.round = none) (hd : F.depth = none) {gf : Nat} {lb : Array Value} (hg : a.eval g = .func (.func gf) #[] lb) (hFg : F.fn gf) (eg : ∀ args w, (callFunc gf args).run P w = .ok (.enter gf args) w)
    {encs : α → Array Value} {xs : List α} {D : Nat → Prop} {w0 : World} (hseq : SeqB F P gf lb encs xs D w0) (hb0 : Below w0.heap.size w0 w) (hps : ∀ x, (encs x).size = ps.size)
    (C : Nat → Prop) (hC : ∀ k, C k → k < w.heap.size) (hD : ∀ k, D k → k < w.heap.size ∧ ¬ C k)
    (I : List α → World → Prop) (Ix : Code → List α → World → Prop) (hI : Stable w.heap.size I) (hIx : ∀ c, Stable w.heap.size (Ix c)) (h0 : I [] w)
    (hround : ∀ (m l : Nat) (pre : List α) (x : α) (rest : List α) (W : World) (K : Act → World → Prop), w.heap.size ≤ l → l < W.heap.size → xs = pre ++ x :: rest → I pre W →
      (∀ a₁ W₁, Below W.heap.size W W₁ → (∀ W₂, W₂.heap.size = W₁.heap.size → Kept (fun k => k = l) W₁ W₂ → (∃ r, W₂.heap[l]? = some (.loop r)) → I pre W₂ → body.wpIn (F.inRound l) m P (endPost C I Ix (pre ++ [x]) W₂) a₁ W₂) → K a₁ W₁) →
      assign.wpIn (F.inRound l) m P (Exit.then K (fun _ _ _ => False)) { tmps := (ps.zip (encs x)).foldl (fun t (p, v) => t.setIfInBounds p v) a.tmps, defers := [] } W)
    (hdone : ∀ (D : Nat) (W : World), w.heap.size ≤ D → D < W.heap.size → I xs W → W.heap[D]? = some (.deferred (some [])) → Q .normal { a with defers := { target := .collected D, args := #[] } :: a.defers } W)
    (hstop : ∀ (D : Nat) (c : Code) (pre : List α) (W : World), w.heap.size ≤ D → D < W.heap.size → pre <+: xs → Ix c pre W → W.heap[D]? = some (.deferred (some [])) → c.wpIn F n P Q { a with defers := { target := .collected D, args := #[] } :: a.defers } W) :
    (Code.rangeFunc g ps assign body).wpIn F n P Q a w := by
  refine wpIn_rangeFunc ?_
  intro fn hfn
  rw [hro]
  obtain ⟨rec, hrec⟩ : ∃ rec : LoopState → Option Code → Loop, rec = fun st pe => { state := st, pending := pe, fn, tmps := a.tmps, params := ps, assign, body, defers := w.heap.size } := ⟨_, rfl⟩
  obtain ⟨W1, hW1⟩ : ∃ W1, (w.alloc (.deferred (some []))).alloc (.loop (rec .ready none)) = W1 := ⟨_, rfl⟩
  have hz1 : W1.heap.size = w.heap.size + 2 := by rw [← hW1]; simp
  have hL1 : W1.heap[w.heap.size + 1]? = some (.loop (rec .ready none)) := by
    rw [← hW1]; have := World.alloc_heap_new (w.alloc (.deferred (some []))) (.loop (rec .ready none)); rwa [World.size_alloc] at this
  have hK1 : W1.heap[w.heap.size]? = some (.deferred (some [])) := by
    rw [← hW1]; exact (Below.heap_alloc _ _ _ (by simp)).trans (World.alloc_heap_new w _)
  have hbw : Below w.heap.size w W1 := by rw [← hW1]; exact ((Below.refl _ w).alloc (Nat.le_refl _) _).alloc (by simp) _
  have hI1 : I [] W1 := hI _ _ _ h0 hbw
  have hb1 : Below w0.heap.size w0 W1 := hb0.trans (hbw.mono hb0.size)
  refine ⟨w.heap.size + 1, [{ target := .collected w.heap.size, args := #[] }], W1, { target := .fn (.func gf) lb, args := #[.func (.yield (w.heap.size + 1)) #[] #[]] }, W1, gf,
    #[.func (.yield (w.heap.size + 1)) #[] #[]] ++ lb, W1, ?_, ?_, ?_, ?_, fun h => (by rw [hd] at h; cases h), ?_⟩
  · rw [← hW1, hrec]; exact run_enterLoop_outer _ _ _ _ _
  · simp only [resolve, hg]
    simp [go_sem]
  · intro f' hf'; simp [Target.leads] at hf'; subst hf'; exact hFg
  · simp [invoke, go_sem, eg]
  · refine (hseq (n - 1) (w.heap.size + 1)
      (fun pre W => I pre W ∧ W.heap[w.heap.size + 1]? = some (.loop (rec .ready none)) ∧ W.heap[w.heap.size]? = some (.deferred (some [])))
      (fun pre W => ∃ c, Ix c pre W ∧ W.heap[w.heap.size + 1]? = some (.loop (rec .done (some c))) ∧ W.heap[w.heap.size]? = some (.deferred (some [])))
      W1 (fun k => C k ∨ k = w.heap.size + 1) hb1 (fun k h => by rcases h with h | h; (have := hC k h; omega); omega) (fun k h e => by rcases e with e | e; (exact (hD k h).2 e); (have := (hD k h).1; omega))
      (fun s A B hs hg' => ⟨hI s A B hs.1 (hg'.mono (by omega)), (hg'.block _ (by omega)).trans hs.2.1, (hg'.block _ (by omega)).trans hs.2.2⟩)
      (fun s A B hs hg' => by
        obtain ⟨c, hc, hl, hk⟩ := hs
        exact ⟨c, hIx c s A B hc (hg'.mono (by omega)), (hg'.block _ (by omega)).trans hl, (hg'.block _ (by omega)).trans hk⟩)
      ?_ ⟨hI1, hL1, hK1⟩).mono ?_
    · rintro pre x rest W hx ⟨hi, hl, hk⟩ hW m
      obtain ⟨fn', tm, asg, bo, hy, hR⟩ := round_of (P := P) (m := m) (B := w.heap.size) (C := C) (I := I) (Ix := Ix) (rec := rec) (tmps := a.tmps) (assign := assign) (body := body) (ps := ps) (l := w.heap.size + 1) (x := x) (pre := pre) (enc := encs x) hfn
        (fun s p => by subst hrec; exact ⟨rfl, rfl, rfl, rfl, rfl⟩) (fun s p s' => by subst hrec; rfl) (fun s p s' p' => by subst hrec; rfl) (by subst hrec; rfl) (hps x) hI hIx hC (by omega) hi hl
        (fun K hK => hround m _ pre x rest W K (by omega) (by omega) hx hi hK)
      refine ⟨fn', tm, asg, bo, hy, hR.mono ?_⟩
      rintro e W' ⟨hkept, h⟩
      have hk' : W'.heap[w.heap.size]? = some (.deferred (some [])) := (hkept.block _ (by omega) (fun e => by rcases e with e | e; (have := hC _ e; omega); omega)).trans hk
      refine ⟨hkept, ?_⟩
      rcases h with ⟨rfl, h1, h2⟩ | ⟨rfl, c, h1, h2⟩
      · exact .inl ⟨rfl, h1, h2, hk'⟩
      · exact .inr ⟨rfl, c, h1, h2, hk'⟩
    · rintro e W2 ⟨⟨v, rfl⟩, (⟨hi, hl, hk⟩ | ⟨pre, hp, c, hi, hl, hk⟩)⟩
      · have hlt := (Array.getElem?_eq_some_iff.1 hl).1
        exact ⟨none, _, by have := run_endLoop (P := P) hl (by rw [hrec]; simp); rw [hrec] at this; exact this, hdone _ _ (Nat.le_refl _) (by simp [World.putObj]; omega) (hI _ _ _ hi (below_putObj _ _ _ (by omega))) ((World.putObj_heap_other (by omega)).trans hk)⟩
      · have hlt := (Array.getElem?_eq_some_iff.1 hl).1
        exact ⟨some c, _, by have := run_endLoop (P := P) hl (by rw [hrec]; simp); rw [hrec] at this; exact this, hstop _ c pre _ (Nat.le_refl _) (by simp [World.putObj]; omega) hp (hIx _ _ _ _ hi (below_putObj _ _ _ (by omega))) ((World.putObj_heap_other (by omega)).trans hk)⟩

/-- A RANGE OVER AN ITERATOR, within a round of loop l₀. -/
theorem range_inner {α : Type} {g : Operand} {ps : Array Tmp} {assign body : Code} {Q : Exit → Act → World → Prop} {a : Act} {w : World}
    {l₀ : Nat} (hro : F.round = some l₀) (hl₀ : ∃ r, w.heap[l₀]? = some (.loop r)) (hd : F.depth = none) {gf : Nat} {lb : Array Value} (hg : a.eval g = .func (.func gf) #[] lb) (hFg : F.fn gf) (eg : ∀ args w, (callFunc gf args).run P w = .ok (.enter gf args) w)
    {encs : α → Array Value} {xs : List α} {D : Nat → Prop} {w0 : World} (hseq : SeqB F P gf lb encs xs D w0) (hb0 : Below w0.heap.size w0 w) (hps : ∀ x, (encs x).size = ps.size)
    (C : Nat → Prop) (hC : ∀ k, C k → k < w.heap.size) (hD : ∀ k, D k → k < w.heap.size ∧ ¬ C k)
    (I : List α → World → Prop) (Ix : Code → List α → World → Prop) (hI : Stable w.heap.size I) (hIx : ∀ c, Stable w.heap.size (Ix c)) (h0 : I [] w)
    (hround : ∀ (m l : Nat) (pre : List α) (x : α) (rest : List α) (W : World) (K : Act → World → Prop), w.heap.size ≤ l → l < W.heap.size → xs = pre ++ x :: rest → I pre W →
      (∀ a₁ W₁, Below W.heap.size W W₁ → (∀ W₂, W₂.heap.size = W₁.heap.size → Kept (fun k => k = l) W₁ W₂ → (∃ r, W₂.heap[l]? = some (.loop r)) → I pre W₂ → body.wpIn (F.inRound l) m P (endPost C I Ix (pre ++ [x]) W₂) a₁ W₂) → K a₁ W₁) →
      assign.wpIn (F.inRound l) m P (Exit.then K (fun _ _ _ => False)) { tmps := (ps.zip (encs x)).foldl (fun t (p, v) => t.setIfInBounds p v) a.tmps, defers := [] } W)
    (hdone : ∀ (W : World), I xs W → Q .normal a W)
    (hstop : ∀ (c : Code) (pre : List α) (W : World), pre <+: xs → Ix c pre W → c.wpIn F n P Q a W) :
    (Code.rangeFunc g ps assign body).wpIn F n P Q a w := by
  refine wpIn_rangeFunc ?_
  intro fn hfn
  rw [hro]
  obtain ⟨r₀, hl₀⟩ := hl₀
  obtain ⟨rec, hrec⟩ : ∃ rec : LoopState → Option Code → Loop, rec = fun st pe => { state := st, pending := pe, fn, tmps := a.tmps, params := ps, assign, body, defers := r₀.defers } := ⟨_, rfl⟩
  obtain ⟨W1, hW1⟩ : ∃ W1, w.alloc (.loop (rec .ready none)) = W1 := ⟨_, rfl⟩
  have hz1 : W1.heap.size = w.heap.size + 1 := by rw [← hW1]; simp
  have hL1 : W1.heap[w.heap.size]? = some (.loop (rec .ready none)) := by rw [← hW1]; exact World.alloc_heap_new w _
  have hbw : Below w.heap.size w W1 := by rw [← hW1]; exact (Below.refl _ w).alloc (Nat.le_refl _) _
  have hI1 : I [] W1 := hI _ _ _ h0 hbw
  have hb1 : Below w0.heap.size w0 W1 := hb0.trans (hbw.mono hb0.size)
  refine ⟨w.heap.size, [], W1, { target := .fn (.func gf) lb, args := #[.func (.yield w.heap.size) #[] #[]] }, W1, gf,
    #[.func (.yield w.heap.size) #[] #[]] ++ lb, W1, ?_, ?_, ?_, ?_, fun h => (by rw [hd] at h; cases h), ?_⟩
  · rw [← hW1, hrec]; exact run_enterLoop_inner hl₀ _ _ _ _ _
  · simp only [resolve, hg]
    simp [go_sem]
  · intro f' hf'; simp [Target.leads] at hf'; subst hf'; exact hFg
  · simp [invoke, go_sem, eg]
  · refine (hseq (n - 1) w.heap.size
      (fun pre W => I pre W ∧ W.heap[w.heap.size]? = some (.loop (rec .ready none)))
      (fun pre W => ∃ c, Ix c pre W ∧ W.heap[w.heap.size]? = some (.loop (rec .done (some c))))
      W1 (fun k => C k ∨ k = w.heap.size) hb1 (fun k h => by rcases h with h | h; (have := hC k h; omega); omega) (fun k h e => by rcases e with e | e; (exact (hD k h).2 e); (have := (hD k h).1; omega))
      (fun s A B hs hg' => ⟨hI s A B hs.1 (hg'.mono (by omega)), (hg'.block _ (by omega)).trans hs.2⟩)
      (fun s A B hs hg' => by
        obtain ⟨c, hc, hl⟩ := hs
        exact ⟨c, hIx c s A B hc (hg'.mono (by omega)), (hg'.block _ (by omega)).trans hl⟩)
      ?_ ⟨hI1, hL1⟩).mono ?_
    · rintro pre x rest W hx ⟨hi, hl⟩ hW m
      obtain ⟨fn', tm, asg, bo, hy, hR⟩ := round_of (P := P) (m := m) (B := w.heap.size) (C := C) (I := I) (Ix := Ix) (rec := rec) (tmps := a.tmps) (assign := assign) (body := body) (ps := ps) (l := w.heap.size) (x := x) (pre := pre) (enc := encs x) hfn
        (fun s p => by subst hrec; exact ⟨rfl, rfl, rfl, rfl, rfl⟩) (fun s p s' => by subst hrec; rfl) (fun s p s' p' => by subst hrec; rfl) (by subst hrec; rfl) (hps x) hI hIx hC (by omega) hi hl
        (fun K hK => hround m _ pre x rest W K (by omega) (by omega) hx hi hK)
      exact ⟨fn', tm, asg, bo, hy, hR⟩
    · rintro e W2 ⟨⟨v, rfl⟩, (⟨hi, hl⟩ | ⟨pre, hp, c, hi, hl⟩)⟩
      · exact ⟨none, _, by have := run_endLoop (P := P) hl (by rw [hrec]; simp); rw [hrec] at this; exact this, hdone _ (hI _ _ _ hi (below_putObj _ _ _ (Nat.le_refl _)))⟩
      · exact ⟨some c, _, by have := run_endLoop (P := P) hl (by rw [hrec]; simp); rw [hrec] at this; exact this, hstop c pre _ hp (hIx _ _ _ _ hi (below_putObj _ _ _ (Nat.le_refl _)))⟩

end Go.Proofs.Ytcghafdemklnnaa
