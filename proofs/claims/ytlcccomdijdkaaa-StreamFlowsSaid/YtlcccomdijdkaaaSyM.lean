/- What printed models and walks are made of: guards, binds, loops, ways out. -/
import Derived.Test.YtlcccomdijdkaaaSyL
import Derived.IntWalk
namespace Go.Proofs.Ytlcccomdijdkaaa
open Go.RowKit

def grd {α : Type} (p : Prop) [Decidable p] (x : Option α) : Option α := if p then x else none
theorem grd_some {α : Type} {p : Prop} [Decidable p] {x : Option α} {r : α} (h : grd p x = some r) : p ∧ x = some r := by
  unfold grd at h
  split at h
  · exact ⟨‹_›, h⟩
  · cases h
theorem grd_pos {α : Type} {p : Prop} [Decidable p] (hp : p) (x : Option α) : grd p x = x := if_pos hp
theorem bind_some {α β : Type} {x : Option α} {f : α → Option β} {r : β} (h : x.bind f = some r) : ∃ a, x = some a ∧ f a = some r := by
  cases x with
  | none => cases h
  | some a => exact ⟨a, rfl, h⟩
theorem bif_t {α : Type} {b : Bool} {x y z : α} (h : b = true) (e : cond b x y = z) : x = z := by subst h; exact e
theorem bif_f {α : Type} {b : Bool} {x y z : α} (h : b = false) (e : cond b x y = z) : y = z := by subst h; exact e
inductive Lp (α β : Type) where
  | done (x : α)
  | ret (v : β)
def Lp.go {α β : Type} (r : Lp α β) (k : α → Option β) : Option β := match r with
  | .done x => k x
  | .ret v => some v
abbrev InI64 (e : Int) : Prop := -9223372036854775808 ≤ e ∧ e ≤ 9223372036854775807
abbrev InU32 (e : Int) : Prop := 0 ≤ e ∧ e ≤ 4294967295
abbrev InU16 (e : Int) : Prop := 0 ≤ e ∧ e ≤ 65535
abbrev InU8 (e : Int) : Prop := 0 ≤ e ∧ e ≤ 255
theorem rngI64 {e : Int} (h : InI64 e) : IntKind.i64.wrap e = e := by
  exact IntWalk.i64_in _ h
theorem rngU32 {e : Int} (h : InU32 e) : IntKind.u32.wrap e = e := by
  obtain ⟨h1, h2⟩ := h
  simp [IntKind.wrap, IntKind.bits, IntKind.signed]
  omega
theorem rngU16 {e : Int} (h : InU16 e) : IntKind.u16.wrap e = e := by
  obtain ⟨h1, h2⟩ := h
  simp [IntKind.wrap, IntKind.bits, IntKind.signed]
  omega
theorem rngU8 {e : Int} (h : InU8 e) : IntKind.u8.wrap e = e := by
  obtain ⟨h1, h2⟩ := h
  simp [IntKind.wrap, IntKind.bits, IntKind.signed]
  omega

section
variable {P : Program} {X : Ctx} {E : Env} {a : Act} {w : World} {st : SState} {Q : Exit → Act → World → Prop} {K : Act → World → Prop}
theorem out_then_normal (h : K a w) : Exit.then K Q .normal a w := h
theorem out_then_exit {i : Nat} (h : Q (.exit i) a w) : Exit.then K Q (.exit i) a w := h
theorem out_then_ret (h : Q .ret a w) : Exit.then K Q .ret a w := h
theorem out_block_normal {i : Nat} (h : Q .normal a w) : Exit.inBlock i Q .normal a w := h
theorem out_block_here {i : Nat} (h : Q .normal a w) : Exit.inBlock i Q (.exit i) a w := by simp [Exit.inBlock, h]
theorem out_block_exit {i j : Nat} (hne : j ≠ i) (h : Q (.exit j) a w) : Exit.inBlock i Q (.exit j) a w := by simp [Exit.inBlock, hne, h]
theorem out_block_ret {i : Nat} (h : Q .ret a w) : Exit.inBlock i Q .ret a w := h
theorem sym_last {lay : Lay} (hl : LayOK P lay) (hm : P.follows .mixedOrders = true) {id : Nat} {ops : List Oper} {draw : Bool} (hs : List (Nat × Hint)) (ks gs : List Nat) (st' : SState) (obs : List Ob) (S : St X st E a w) (hn : dstB X.n ops = true)
    (hev : evalR lay ops hs ks gs st = some (st', obs)) (hdr : (!draw || orderB lay ops hs st) = true) (ho : AllOb P X.w0.heap.size obs) (k : ∀ E' a' w', St X st' E' a' w' → Q .normal a' w') : (Code.region id ops.toArray draw).wp P Q a w :=
  sym_region hl hm hs ks gs st' obs hn hev hdr ho S k
theorem sym_if_last {c : Operand} {x y : Code} {b : Bool} (S : St X st E a w) (hc : opnd st.slots c = some (.v (.bool b))) (ht : b = true → x.wp P Q a w) (hf : b = false → y.wp P Q a w) : (Code.cond c x y).wp P Q a w := by
  refine wp_cond_split ?_ ht hf
  cases c with
  | tmp t => simp only [opnd] at hc; have := S.slot t _ hc; simp [Act.eval, this, SV.val]
  | const v => simp [opnd] at hc; subst hc; rfl
  | global g => simp [opnd] at hc
  | func f => simp [opnd] at hc
theorem sym_meet_last {c : Operand} {x y : Code} {b : Bool} (st2 : SState) (S : St X st E a w) (hc : opnd st.slots c = some (.v (.bool b))) (ht : b = true → x.wp P (Exit.then (fun a' w' => ∃ E', St X st2 E' a' w') Q) a w) (hf : b = false → y.wp P (Exit.then (fun a' w' => ∃ E', St X st2 E' a' w') Q) a w)
    (k : ∀ E' a' w', St X st2 E' a' w' → Q .normal a' w') : (Code.cond c x y).wp P Q a w := by
  have hm : ∀ z : Code, z.wp P (Exit.then (fun a' w' => ∃ E', St X st2 E' a' w') Q) a w → z.wp P Q a w := fun z h => wp_mono h fun e a w h => by
    cases e with
    | normal => obtain ⟨E', S'⟩ := h; exact k E' a w S'
    | _ => exact h
  exact sym_if_last S hc (fun hb => hm _ (ht hb)) (fun hb => hm _ (hf hb))
theorem sym_block_meet {id : Nat} {c rest : Code} {G : Act → World → Prop} (h1 : c.wp P (Exit.inBlock id (Exit.then G Q)) a w) (h2 : ∀ a w, G a w → rest.wp P Q a w) : (Code.seq (Code.block id c) rest).wp P Q a w := by
  refine wp_seq (wp_block (wp_mono h1 fun e a w h => ?_))
  cases e with
  | normal => exact h2 _ _ h
  | exit j =>
    by_cases hj : j = id
    · subst hj; simp only [Exit.inBlock, if_true] at h ⊢; exact h2 _ _ h
    · simp only [Exit.inBlock, if_neg hj] at h ⊢; exact h
  | _ => exact h
theorem sym_block_last {id : Nat} {c : Code} {G : Act → World → Prop} (h1 : c.wp P (Exit.inBlock id (Exit.then G Q)) a w) (h2 : ∀ a w, G a w → Q .normal a w) : (Code.block id c).wp P Q a w := by
  refine wp_block (wp_mono h1 fun e a w h => ?_)
  cases e with
  | normal => exact h2 _ _ h
  | exit j =>
    by_cases hj : j = id
    · subst hj; simp only [Exit.inBlock, if_true] at h ⊢; exact h2 _ _ h
    · simp only [Exit.inBlock, if_neg hj] at h ⊢; exact h
  | _ => exact h
theorem sym_rounds {β : Type} {c : Code} {F : Nat → β → Prop} {H : β → SState} (b : β) (hz : ∀ b, ¬ F 0 b) (hs : ∀ n b E a w, F (n + 1) b → (∀ b' E' a' w', F n b' → St X (H b') E' a' w' → Code.rounds P c Q n a' w') → St X (H b) E a w → c.wp P (Exit.then (Code.rounds P c Q n) Q) a w)
    (n : Nat) (E : Env) (a : Act) (w : World) (h0 : F n b) (S : St X (H b) E a w) : Code.rounds P c Q n a w := by
  induction n generalizing b E a w with
  | zero => exact absurd h0 (hz b)
  | succ n ih => rw [rounds_succ]; exact hs n b E a w h0 (fun b' E' a' w' hF S' => ih b' E' a' w' hF S') S
end
end Go.Proofs.Ytlcccomdijdkaaa
