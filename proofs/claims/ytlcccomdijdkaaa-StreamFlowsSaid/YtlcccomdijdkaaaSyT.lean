/- A range over an iterator: its rounds turn the caller's own blocks, the iterator turns its own, and may panic behind the last of them. -/
import Derived.RangeFuncNested
import Derived.RangeFuncBound
import Derived.RangeFuncCalls
import Derived.RangeFuncLeaves
import Derived.OwnWalkIn
import Derived.TacticsInMore
import Derived.LoopNIn
import Derived.LoopIn
import Derived.Maps.OwnIn
import Derived.Test.YtlcccomdijdkaaaSyR
namespace Go.Proofs.Ytlcccomdijdkaaa
open Go.RowKit

theorem Kept.putObj {C : Nat → Prop} {a b : World} (h : Kept C a b) {r : Nat} (hp : C r) (o : Obj) : Kept C a (b.putObj r o) :=
  h.trans ⟨rfl, rfl, rfl, by simp [World.putObj], fun k _ hn => World.putObj_heap_other (fun e => hn (by rw [e]; exact hp))⟩
theorem Kept.widen {C C' : Nat → Prop} {a b : World} (h : Kept C a b) (hc : ∀ k, C k → C' k) : Kept C' a b := h.mono fun k _ => hc k

/-- what the caller says of its own blocks S (and of those below B) stays true while these stay -/
def Rest {β : Type} (B : Nat) (J : β → (Nat → Prop) → World → Prop) : Prop :=
  (∀ s S a b, J s S a → Kept (fun k => ¬ S k ∧ B ≤ k) a b → J s S b) ∧ (∀ s S a, J s S a → ∀ k, S k → k < a.heap.size)
def RestM {β : Type} (M : Nat → Prop) (B : Nat) (J : β → (Nat → Prop) → World → Prop) : Prop :=
  (∀ s S a b, J s S a → Kept (fun k => ¬ S k ∧ (B ≤ k ∨ M k)) a b → J s S b) ∧ (∀ s S a, J s S a → ∀ k, S k → k < a.heap.size)
theorem RestM.rest {β : Type} {M : Nat → Prop} {B : Nat} {J : β → (Nat → Prop) → World → Prop} (h : RestM M B J) : Rest B J := ⟨fun s S a b hj hk => h.1 s S a b hj (hk.widen fun _ h => ⟨h.1, .inl h.2⟩), h.2⟩
/-- the caller's own blocks behind a round: those of before, and new ones -/
def Grows (S : Nat → Prop) (a : World) (S' : Nat → Prop) : Prop := ∀ k, S' k → S k ∨ a.heap.size ≤ k

/-- AN ITERATOR's CONTRACT: called with a yield whose rounds turn the caller's own blocks alone (none of which it reads: D), it hands on xs, one after the other, until a round says no. -/
def SeqT {α : Type} (F : Fence) (P : Program) (g : Nat) (lb : Array Value) (encs : α → Array Value) (xs : List α) (die : Option (List PanicEntry)) (M D : Nat → Prop) (Fin : World → Prop) (w : World) : Prop :=
  ∀ (n l : Nat) (J Jx : List α → (Nat → Prop) → World → Prop) (W : World) (S0 : Nat → Prop), Below w.heap.size w W → (∀ k, S0 k → ¬ D k ∧ ¬ M k) → RestM M W.heap.size J → RestM M W.heap.size Jx →
    (∀ pre x rest W1 S, xs = pre ++ x :: rest → J pre S W1 → Grows S0 W S → W.heap.size ≤ W1.heap.size → ∀ m, YieldAt F m P l (encs x) W1 fun e W' =>
      ∃ S', Grows S W1 S' ∧ Kept S W1 W' ∧ ((e = .returned (.bool true) ∧ J (pre ++ [x]) S' W') ∨ (e = .returned (.bool false) ∧ Jx (pre ++ [x]) S' W'))) →
    J [] S0 W →
    CallsIn F n P g (#[.func (.yield l) #[] #[]] ++ lb) W fun e W' => ∃ S, Grows S0 W S ∧ W.heap.size ≤ W'.heap.size ∧
      ((J xs S W' ∧ (match die with | none => (∃ v, e = .returned v) ∧ Fin W' | some ch => e = .panicked ch)) ∨ ((∃ v, e = .returned v) ∧ ∃ pre, pre <+: xs ∧ Jx pre S W'))

/-- HOW THE BODY OF A ROUND MAY BE LEFT -/
def endPostO {α : Type} (S : Nat → Prop) (I : List α → (Nat → Prop) → World → Prop) (Ix : Code → List α → (Nat → Prop) → World → Prop) (xs : List α) (W : World) : Exit → Act → World → Prop
  | .normal, _, W' => ∃ S', Grows S W S' ∧ Kept S W W' ∧ I xs S' W'
  | .ret, _, W' => ∃ S', Grows S W S' ∧ Kept S W W' ∧ Ix .ret xs S' W'
  | .exit id, _, W' => ∃ S', Grows S W S' ∧ Kept S W W' ∧ Ix (.exit id) xs S' W'
  | .goto t, _, W' => ∃ S', Grows S W S' ∧ Kept S W W' ∧ Ix (.goto t) xs S' W'
  | .panic _, _, _ => False
  | .outgrown, _, _ => False

variable {F : Fence} {n : Nat} {P : Program}

/-- ONE ROUND, whichever law: the record lies at l, and is none of the caller's own. -/
theorem roundO_of {α : Type} {ps : Array Tmp} {assign body : Code} {tmps : Array Value} {l B : Nat} {rec : LoopState → Option Code → Loop} {fn : FuncId} (hfn : F.fn fn)
    (hr1 : ∀ s p, (rec s p).fn = fn ∧ (rec s p).tmps = tmps ∧ (rec s p).params = ps ∧ (rec s p).assign = assign ∧ (rec s p).body = body) (hr2 : ∀ s p s', { rec s p with state := s' } = rec s' p) (hr3 : ∀ s p s' p', { rec s p with state := s', pending := p' } = rec s' p') (hr4 : (rec .ready none).state = .ready)
    {enc : Array Value} (hps : enc.size = ps.size) {S : Nat → Prop} {I : List α → (Nat → Prop) → World → Prop} {Ix : Code → List α → (Nat → Prop) → World → Prop} (hI : Rest B I) (hIx : ∀ c, Rest B (Ix c)) (hS : ¬ S l) (hB : B ≤ l)
    {pre : List α} {x : α} {W : World} (hi : I pre S W) (hl : W.heap[l]? = some (.loop (rec .ready none))) {m : Nat}
    (hround : ∀ K : Act → World → Prop, (∀ a₁ W₁, Below W.heap.size W W₁ → (∀ W₂, W₂.heap.size = W₁.heap.size → Kept (fun k => k = l) W₁ W₂ → (∃ r, W₂.heap[l]? = some (.loop r)) → I pre S W₂ → body.wpIn (F.inRound l) m P (endPostO S I Ix (pre ++ [x]) W₂) a₁ W₂) → K a₁ W₁) →
      assign.wpIn (F.inRound l) m P (Exit.then K (fun _ _ _ => False)) { tmps := (ps.zip enc).foldl (fun t (p, v) => t.setIfInBounds p v) tmps, defers := [] } W) :
    YieldAt F m P l enc W fun e W' => ∃ S', Grows S W S' ∧ ¬ S' l ∧ Kept (fun k => S k ∨ k = l) W W' ∧
      ((e = .returned (.bool true) ∧ I (pre ++ [x]) S' W' ∧ W'.heap[l]? = some (.loop (rec .ready none))) ∨ (e = .returned (.bool false) ∧ ∃ c, Ix c (pre ++ [x]) S' W' ∧ W'.heap[l]? = some (.loop (rec .done (some c))))) := by
  have hlt : l < W.heap.size := (Array.getElem?_eq_some_iff.1 hl).1
  have hy := run_yield (P := P) (args := enc) hl (by rw [(hr1 _ _).2.2.1]; exact hps)
  rw [(hr1 _ _).1, (hr1 _ _).2.1, (hr1 _ _).2.2.1, (hr1 _ _).2.2.2.1, (hr1 _ _).2.2.2.2] at hy
  refine ⟨fn, _, assign, body, hy, roundIn_of_wpIn hfn (hround _ ?_)⟩
  clear hy
  intro a₁ W₁ hb1 hbody
  have hl1 : W₁.heap[l]? = some (.loop (rec .ready none)) := (hb1.block l hlt).trans hl
  have hlt1 : l < W₁.heap.size := (Array.getElem?_eq_some_iff.1 hl1).1
  have hi1 : I pre S W₁ := hI.1 _ _ _ _ hi (Kept.of_below hb1)
  refine ⟨_, run_beginRound hl1 hr4, ?_⟩
  rw [hr2]
  have hl2 : (W₁.putObj l (.loop (rec .busy none))).heap[l]? = some (.loop (rec .busy none)) := World.putObj_heap_same hlt1
  have hk2 : Kept (fun k => k = l) W₁ (W₁.putObj l (.loop (rec .busy none))) := (Kept.refl (fun k => k = l) W₁).putObj (r := l) rfl _
  have hi2 : I pre S (W₁.putObj l (.loop (rec .busy none))) := hI.1 _ _ _ _ hi1 (hk2.widen fun k hk => by subst hk; exact ⟨hS, hB⟩)
  refine wpIn_mono (hbody _ (by simp [World.putObj]) hk2 ⟨_, hl2⟩ hi2) ?_
  have hk02 : Kept (fun k => S k ∨ k = l) W (W₁.putObj l (.loop (rec .busy none))) := (Kept.of_below hb1).trans (hk2.widen fun k h => .inr h)
  have hz2 : W.heap.size ≤ (W₁.putObj l (.loop (rec .busy none))).heap.size := hk02.size
  have fin : ∀ (jump : Option Code) (W3 : World) (S' : Nat → Prop), Grows S (W₁.putObj l (.loop (rec .busy none))) S' → Kept S (W₁.putObj l (.loop (rec .busy none))) W3 →
      (Instr.endRound l jump).run P W3 = .ok (.bool jump.isNone) (W3.putObj l (.loop (rec (if jump.isNone then .ready else .done) jump))) ∧
      (W3.putObj l (.loop (rec (if jump.isNone then .ready else .done) jump))).heap[l]? = some (.loop (rec (if jump.isNone then .ready else .done) jump)) ∧
      Kept (fun k => S k ∨ k = l) W (W3.putObj l (.loop (rec (if jump.isNone then .ready else .done) jump))) ∧ Grows S W S' ∧ ¬ S' l ∧ Kept (fun k => ¬ S' k ∧ B ≤ k) W3 (W3.putObj l (.loop (rec (if jump.isNone then .ready else .done) jump))) := fun jump W3 S' hg hk3 => by
    have hl3 : W3.heap[l]? = some (.loop (rec .busy none)) := (hk3.block l (Array.getElem?_eq_some_iff.1 hl2).1 hS).trans hl2
    have := run_endRound (P := P) jump hl3
    rw [hr3] at this
    have hS' : ¬ S' l := fun e => by
      rcases hg l e with h | h
      · exact hS h
      · have := (Array.getElem?_eq_some_iff.1 hl2).1; omega
    exact ⟨this, World.putObj_heap_same (Array.getElem?_eq_some_iff.1 hl3).1, (hk02.trans (hk3.widen fun k h => .inl h)).putObj (.inr rfl) _, fun k hk => (hg k hk).imp id (fun h => by omega), hS',
      (Kept.refl _ _).putObj (r := l) ⟨hS', hB⟩ _⟩
  rintro e a3 W3 hp
  cases e with
  | normal =>
    obtain ⟨S', hg, hk3, hi3⟩ := hp
    obtain ⟨hr, hl4, hk4, hg', hS', hkk⟩ := fin none W3 S' hg hk3
    exact ⟨_, _, hr, S', hg', hS', hk4, .inl ⟨rfl, hI.1 _ _ _ _ hi3 hkk, hl4⟩⟩
  | ret =>
    obtain ⟨S', hg, hk3, hi3⟩ := hp
    obtain ⟨hr, hl4, hk4, hg', hS', hkk⟩ := fin (some .ret) W3 S' hg hk3
    exact ⟨_, _, hr, S', hg', hS', hk4, .inr ⟨rfl, .ret, (hIx _).1 _ _ _ _ hi3 hkk, hl4⟩⟩
  | exit id =>
    obtain ⟨S', hg, hk3, hi3⟩ := hp
    obtain ⟨hr, hl4, hk4, hg', hS', hkk⟩ := fin (some (.exit id)) W3 S' hg hk3
    exact ⟨_, _, hr, S', hg', hS', hk4, .inr ⟨rfl, .exit id, (hIx _).1 _ _ _ _ hi3 hkk, hl4⟩⟩
  | goto t =>
    obtain ⟨S', hg, hk3, hi3⟩ := hp
    obtain ⟨hr, hl4, hk4, hg', hS', hkk⟩ := fin (some (.goto t)) W3 S' hg hk3
    exact ⟨_, _, hr, S', hg', hS', hk4, .inr ⟨rfl, .goto t, (hIx _).1 _ _ _ _ hi3 hkk, hl4⟩⟩
  | panic ch => exact hp.elim
  | outgrown => exact hp.elim

/-- A RANGE OVER AN ITERATOR, outside of rounds. -/
theorem rangeT_outer {α : Type} {g : Operand} {ps : Array Tmp} {assign body : Code} {Q : Exit → Act → World → Prop} {a : Act} {w : World}
    (hro : F.round = none) (hd : F.depth = none) {gf : Nat} {lb : Array Value} (hg : a.eval g = .func (.func gf) #[] lb) (hFg : F.fn gf) (eg : ∀ args w, (callFunc gf args).run P w = .ok (.enter gf args) w)
    {encs : α → Array Value} {xs : List α} {die : Option (List PanicEntry)} {M D : Nat → Prop} {Fin : World → Prop} {w0 : World} (hseq : SeqT F P gf lb encs xs die M D Fin w0) (hb0 : Below w0.heap.size w0 w) (hps : ∀ x, (encs x).size = ps.size)
    (S0 : Nat → Prop) (hS : ∀ k, S0 k → k < w.heap.size ∧ ¬ D k ∧ ¬ M k) (hD : ∀ k, D k → k < w.heap.size) (hM : ∀ k, M k → k < w.heap.size) (hfin : ∀ a b, Fin a → Kept (fun k => w.heap.size ≤ k) a b → Fin b)
    (I : List α → (Nat → Prop) → World → Prop) (Ix : Code → List α → (Nat → Prop) → World → Prop) (hI : RestM M w.heap.size I) (hIx : ∀ c, RestM M w.heap.size (Ix c)) (h0 : I [] S0 w)
    (hround : ∀ (m l : Nat) (pre : List α) (x : α) (rest : List α) (W : World) (S : Nat → Prop) (K : Act → World → Prop), w.heap.size ≤ l → l < W.heap.size → ¬ S l → xs = pre ++ x :: rest → I pre S W → Grows S0 w S →
      (∀ a₁ W₁, Below W.heap.size W W₁ → (∀ W₂, W₂.heap.size = W₁.heap.size → Kept (fun k => k = l) W₁ W₂ → (∃ r, W₂.heap[l]? = some (.loop r)) → I pre S W₂ → body.wpIn (F.inRound l) m P (endPostO S I Ix (pre ++ [x]) W₂) a₁ W₂) → K a₁ W₁) →
      assign.wpIn (F.inRound l) m P (Exit.then K (fun _ _ _ => False)) { tmps := (ps.zip (encs x)).foldl (fun t (p, v) => t.setIfInBounds p v) a.tmps, defers := [] } W)
    (hdone : ∀ (D : Nat) (S : Nat → Prop) (W : World), w.heap.size ≤ D → D < W.heap.size → ¬ S D → I xs S W → Grows S0 w S → die = none → Fin W → W.heap[D]? = some (.deferred (some [])) → Q .normal { a with defers := { target := .collected D, args := #[] } :: a.defers } W)
    (hstop : ∀ (D : Nat) (c : Code) (pre : List α) (S : Nat → Prop) (W : World), w.heap.size ≤ D → D < W.heap.size → ¬ S D → pre <+: xs → Ix c pre S W → Grows S0 w S → W.heap[D]? = some (.deferred (some [])) → c.wpIn F n P Q { a with defers := { target := .collected D, args := #[] } :: a.defers } W)
    (hdie : ∀ (ch : List PanicEntry) (D : Nat) (S : Nat → Prop) (W : World), die = some ch → w.heap.size ≤ D → D < W.heap.size → ¬ S D → I xs S W → Grows S0 w S → W.heap[D]? = some (.deferred (some [])) → Q (.panic ch) { a with defers := { target := .collected D, args := #[] } :: a.defers } W) :
    (Code.rangeFunc g ps assign body).wpIn F n P Q a w := by
  refine wpIn_rangeFunc ?_
  intro fn hfn
  rw [hro]
  obtain ⟨rec, hrec⟩ : ∃ rec : LoopState → Option Code → Loop, rec = fun st pe => { state := st, pending := pe, fn, tmps := a.tmps, params := ps, assign, body, defers := w.heap.size } := ⟨_, rfl⟩
  obtain ⟨W1, hW1⟩ : ∃ W1, (w.alloc (.deferred (some []))).alloc (.loop (rec .ready none)) = W1 := ⟨_, rfl⟩
  have hz1 : W1.heap.size = w.heap.size + 2 := by rw [← hW1]; simp
  have hL1 : W1.heap[w.heap.size + 1]? = some (.loop (rec .ready none)) := by
    rw [← hW1]; have := World.alloc_heap_new (w.alloc (.deferred (some []))) (.loop (rec .ready none)); rwa [World.size_alloc] at this
  have hK1 : W1.heap[w.heap.size]? = some (.deferred (some [])) := by
    rw [← hW1]; exact (Below.heap_alloc _ _ _ (by simp)).trans (World.alloc_heap_new w _)
  have hbw : Below w.heap.size w W1 := by rw [← hW1]; exact ((Below.refl _ w).alloc (Nat.le_refl _) _).alloc (by simp) _
  have hI1 : I [] S0 W1 := hI.1 _ _ _ _ h0 (Kept.of_below hbw)
  have hb1 : Below w0.heap.size w0 W1 := hb0.trans (hbw.mono hb0.size)
  -- the caller's own, with the record and the block for deferred calls
  obtain ⟨O, hO⟩ : ∃ O : (Nat → Prop) → Nat → Prop, O = fun S k => S k ∨ k = w.heap.size + 1 ∨ k = w.heap.size := ⟨_, rfl⟩
  have hkeep : ∀ S a b, (¬ S (w.heap.size + 1) ∧ ¬ S w.heap.size) → Kept (fun k => ¬ O S k ∧ (W1.heap.size ≤ k ∨ M k)) a b → Kept (fun k => ¬ S k ∧ (w.heap.size ≤ k ∨ M k)) a b ∧ (∀ k, (k = w.heap.size + 1 ∨ k = w.heap.size) → k < a.heap.size → b.heap[k]? = a.heap[k]?) := fun S a b hn hk => by
    subst hO
    exact ⟨hk.widen fun k h => ⟨fun e => h.1 (.inl e), h.2.imp (fun h => by omega) id⟩, fun k hk' hlt => hk.block k hlt (fun e => e.1 (.inr hk'))⟩
  refine ⟨w.heap.size + 1, [{ target := .collected w.heap.size, args := #[] }], W1, { target := .fn (.func gf) lb, args := #[.func (.yield (w.heap.size + 1)) #[] #[]] }, W1, gf,
    #[.func (.yield (w.heap.size + 1)) #[] #[]] ++ lb, W1, ?_, ?_, ?_, ?_, fun h => (by rw [hd] at h; cases h), ?_⟩
  · rw [← hW1, hrec]; exact run_enterLoop_outer _ _ _ _ _
  · simp only [resolve, hg]
    simp [go_sem]
  · intro f' hf'; simp [Target.leads] at hf'; subst hf'; exact hFg
  · simp [invoke, go_sem, eg]
  · refine (hseq (n - 1) (w.heap.size + 1)
      (fun pre T W => ∃ S, T = O S ∧ (¬ S (w.heap.size + 1) ∧ ¬ S w.heap.size) ∧ Grows S0 w S ∧ I pre S W ∧ W.heap[w.heap.size + 1]? = some (.loop (rec .ready none)) ∧ W.heap[w.heap.size]? = some (.deferred (some [])))
      (fun pre T W => ∃ S c, T = O S ∧ (¬ S (w.heap.size + 1) ∧ ¬ S w.heap.size) ∧ Grows S0 w S ∧ Ix c pre S W ∧ W.heap[w.heap.size + 1]? = some (.loop (rec .done (some c))) ∧ W.heap[w.heap.size]? = some (.deferred (some [])))
      W1 (O S0) hb1 ?_ ?_ ?_ ?_ ⟨S0, rfl, ⟨fun h => by have := (hS _ h).1; omega, fun h => by have := (hS _ h).1; omega⟩, fun k h => .inl h, hI1, hL1, hK1⟩).mono ?_
    · intro k hk
      subst hO
      rcases hk with h | h | h
      · exact (hS k h).2
      · exact ⟨fun h2 => by have := hD k h2; omega, fun h2 => by have := hM k h2; omega⟩
      · exact ⟨fun h2 => by have := hD k h2; omega, fun h2 => by have := hM k h2; omega⟩
    · refine ⟨?_, ?_⟩
      · rintro s _ a b ⟨S, rfl, hn, hg, hi, hl, hk⟩ hkk
        obtain ⟨k1, k2⟩ := hkeep S a b hn hkk
        exact ⟨S, rfl, hn, hg, hI.1 _ _ _ _ hi k1, (k2 _ (.inl rfl) (Array.getElem?_eq_some_iff.1 hl).1).trans hl, (k2 _ (.inr rfl) (Array.getElem?_eq_some_iff.1 hk).1).trans hk⟩
      · rintro s _ a ⟨S, rfl, hn, hg, hi, hl, hk⟩ k hk'
        subst hO
        rcases hk' with h | rfl | rfl
        · exact hI.2 _ _ _ hi k h
        · exact (Array.getElem?_eq_some_iff.1 hl).1
        · exact (Array.getElem?_eq_some_iff.1 hk).1
    · refine ⟨?_, ?_⟩
      · rintro s _ a b ⟨S, c, rfl, hn, hg, hi, hl, hk⟩ hkk
        obtain ⟨k1, k2⟩ := hkeep S a b hn hkk
        exact ⟨S, c, rfl, hn, hg, (hIx c).1 _ _ _ _ hi k1, (k2 _ (.inl rfl) (Array.getElem?_eq_some_iff.1 hl).1).trans hl, (k2 _ (.inr rfl) (Array.getElem?_eq_some_iff.1 hk).1).trans hk⟩
      · rintro s _ a ⟨S, c, rfl, hn, hg, hi, hl, hk⟩ k hk'
        subst hO
        rcases hk' with h | rfl | rfl
        · exact (hIx c).2 _ _ _ hi k h
        · exact (Array.getElem?_eq_some_iff.1 hl).1
        · exact (Array.getElem?_eq_some_iff.1 hk).1
    · rintro pre x rest W _ hx ⟨S, rfl, hn, hg, hi, hl, hk⟩ _ hW m
      obtain ⟨fn', tm, asg, bo, hy, hR⟩ := roundO_of (P := P) (m := m) (B := w.heap.size) (S := S) (I := I) (Ix := Ix) (rec := rec) (tmps := a.tmps) (assign := assign) (body := body) (ps := ps) (l := w.heap.size + 1) (x := x) (pre := pre) (enc := encs x) hfn
        (fun s p => by subst hrec; exact ⟨rfl, rfl, rfl, rfl, rfl⟩) (fun s p s' => by subst hrec; rfl) (fun s p s' p' => by subst hrec; rfl) (by subst hrec; rfl) (hps x) hI.rest (fun c => (hIx c).rest) hn.1 (by omega) hi hl
        (fun K hK => hround m _ pre x rest W S K (by omega) (by omega) hn.1 hx hi hg hK)
      refine ⟨fn', tm, asg, bo, hy, hR.mono ?_⟩
      rintro e W' ⟨S', hg', hS', hkept, h⟩
      have hlD : w.heap.size < W.heap.size := (Array.getElem?_eq_some_iff.1 hk).1
      have hk' : W'.heap[w.heap.size]? = some (.deferred (some [])) := (hkept.block _ hlD (fun e => by rcases e with e | e; (exact hn.2 e); omega)).trans hk
      have hn' : ¬ S' (w.heap.size + 1) ∧ ¬ S' w.heap.size := ⟨hS', fun e => by rcases hg' _ e with h1 | h1; (exact hn.2 h1); omega⟩
      have hgg : Grows S0 w S' := fun k hk1 => by
        rcases hg' k hk1 with h1 | h1
        · exact hg k h1
        · right; omega
      refine ⟨O S', ?_, ?_, ?_⟩
      · subst hO
        intro k hk1
        rcases hk1 with h1 | h1
        · rcases hg' k h1 with h2 | h2
          · exact .inl (.inl h2)
          · exact .inr h2
        · exact .inl (.inr h1)
      · subst hO
        exact hkept.widen fun k h1 => by
          rcases h1 with h1 | h1
          · exact .inl h1
          · exact .inr (.inl h1)
      · rcases h with ⟨rfl, h1, h2⟩ | ⟨rfl, c, h1, h2⟩
        · exact .inl ⟨rfl, S', rfl, hn', hgg, h1, h2, hk'⟩
        · exact .inr ⟨rfl, S', c, rfl, hn', hgg, h1, h2, hk'⟩
    · rintro e W2 ⟨_, _, _, (⟨⟨S, rfl, hn, hg, hi, hl, hk⟩, hE⟩ | ⟨⟨v, rfl⟩, pre, hp, S, c, rfl, hn, hg, hi, hl, hk⟩)⟩
      · have hlt := (Array.getElem?_eq_some_iff.1 hl).1
        cases hdi : die with
        | some ch =>
          rw [hdi] at hE
          subst hE
          exact hdie ch _ S _ hdi (Nat.le_refl _) (by omega) hn.2 hi hg hk
        | none =>
          rw [hdi] at hE
          obtain ⟨⟨v, rfl⟩, hF⟩ := hE
          exact ⟨none, _, by have := run_endLoop (P := P) hl (by rw [hrec]; simp); rw [hrec] at this; exact this, hdone _ S _ (Nat.le_refl _) (by simp [World.putObj]; omega) hn.2 (hI.1 _ _ _ _ hi ((Kept.refl _ _).putObj (r := w.heap.size + 1) ⟨hn.1, .inl (by omega)⟩ _)) hg hdi (hfin _ _ hF ((Kept.refl _ _).putObj (r := w.heap.size + 1) (by omega) _)) ((World.putObj_heap_other (by omega)).trans hk)⟩
      · have hlt := (Array.getElem?_eq_some_iff.1 hl).1
        exact ⟨some c, _, by have := run_endLoop (P := P) hl (by rw [hrec]; simp); rw [hrec] at this; exact this, hstop _ c pre S _ (Nat.le_refl _) (by simp [World.putObj]; omega) hn.2 hp ((hIx c).1 _ _ _ _ hi ((Kept.refl _ _).putObj (r := w.heap.size + 1) ⟨hn.1, .inl (by omega)⟩ _)) hg ((World.putObj_heap_other (by omega)).trans hk)⟩
end Go.Proofs.Ytlcccomdijdkaaa
