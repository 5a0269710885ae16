/- What becomes of a state: a slot is written, a block is made, a block is written, a callee has turned nothing old, or has returned letters. -/
import Derived.Test.YtlcccomdijdkaaaSyF
namespace Go.Proofs.Ytlcccomdijdkaaa
open Go.RowKit

variable {P : Program} {X : Ctx} {sf : Nat → Option SV} {bf : BF} {rds : List (Nat × Q)} {grs : List (Nat × GQ)} {E : Env} {a : Act} {w : World}

def updF {β : Type} (f : Nat → Option β) (k : Nat) (x : β) : Nat → Option β := fun t => if t = k then some x else f t
theorem look_upd {β : Type} (l : List (Nat × β)) (k : Nat) (x : β) : look ((k, x) :: l) = updF (look l) k x := by
  funext t
  unfold updF
  by_cases h : t = k
  · subst h; rw [look_same, if_pos rfl]
  · rw [look_ne (fun e => h e.symm), if_neg h]

mutual
def SV.free (g : Nat) : SV → Bool
  | .v _ => true
  | .own g' _ => !Nat.beq g g'
  | .sl _ => true
  | .at _ _ _ => true
  | .gr _ => true
  | .ltr g' _ => !Nat.beq g g'
  | .row g' _ _ _ => !Nat.beq g g'
  | .sub _ _ _ => true
  | .agg xs => SV.frees g xs
  | .tup xs => SV.frees g xs
  | .fn _ cap => SV.frees g cap
  | .gd _ _ _ x => x.free g
def SV.frees (g : Nat) : List SV → Bool
  | [] => true
  | x :: xs => x.free g && SV.frees g xs
end
/-- what is held of a number does not name g -/
def BE.free (g : Nat) : BE → Bool
  | .blk _ cs => SV.frees g cs
  | .held _ => true
def Env.upd (E : Env) (g b : Nat) : Env := { E with ρ := fun k => if k = g then b else E.ρ k }
theorem Env.upd_same (E : Env) (g b : Nat) : (E.upd g b).ρ g = b := by simp [Env.upd]
theorem Env.upd_ne (E : Env) {g k : Nat} (b : Nat) (h : k ≠ g) : (E.upd g b).ρ k = E.ρ k := by simp [Env.upd, h]
theorem Env.updX_same (E : Env) (g : Nat) (v : Nat → Value) : (E.updX g v).x g = v := by simp [Env.updX]
theorem Env.updX_ne (E : Env) {g k : Nat} (v : Nat → Value) (h : k ≠ g) : (E.updX g v).x k = E.x k := by simp [Env.updX, h]
/-- two readings that differ at g alone -/
structure Env.But (g : Nat) (E E' : Env) : Prop where
  ρ : ∀ k, k ≠ g → E'.ρ k = E.ρ k
  x : ∀ k, k ≠ g → E'.x k = E.x k
  sl : E'.sl = E.sl
  gr : E'.gr = E.gr
theorem Env.upd_but (E : Env) (g b : Nat) : Env.But g E (E.upd g b) := ⟨fun _ h => Env.upd_ne E b h, fun _ _ => rfl, rfl, rfl⟩
theorem Env.updX_but (E : Env) (g : Nat) (v : Nat → Value) : Env.But g E (E.updX g v) := ⟨fun _ _ => rfl, fun _ h => Env.updX_ne E v h, rfl, rfl⟩
theorem ne_of_beq {g g' : Nat} (h : (!Nat.beq g g') = true) : g' ≠ g := fun e => by subst e; simp at h
mutual
theorem SV.val_but {E' : Env} {g : Nat} (h : Env.But g E E') : ∀ (x : SV), x.free g = true → x.val E' = x.val E
  | .v _, _ => by simp [SV.val]
  | .own g' _, hf => by simp [SV.val, h.ρ g' (ne_of_beq hf)]
  | .sl _, _ => by simp [SV.val, h.sl]
  | .at _ _ _, _ => by simp [SV.val, h.sl]
  | .gr _, _ => by simp [SV.val, h.gr]
  | .ltr g' _, hf => by simp [SV.val, h.x g' (ne_of_beq hf)]
  | .row g' _ _ _, hf => by simp [SV.val, h.ρ g' (ne_of_beq hf)]
  | .sub _ _ _, _ => by simp [SV.val, h.sl]
  | .agg xs, hf => by simp only [SV.val, SV.vals_but h xs hf]
  | .tup xs, hf => by simp only [SV.val, SV.vals_but h xs hf]
  | .fn _ cap, hf => by simp only [SV.val, SV.vals_but h cap hf]
  | .gd _ _ W x, hf => by simp only [SV.val, SV.val_but h x hf]
theorem SV.vals_but {E' : Env} {g : Nat} (h : Env.But g E E') : ∀ (xs : List SV), SV.frees g xs = true → SV.vals E' xs = SV.vals E xs
  | [], _ => by simp [SV.vals]
  | x :: xs, hf => by
    simp only [SV.frees, Bool.and_eq_true] at hf
    simp only [SV.vals, SV.val_but h x hf.1, SV.vals_but h xs hf.2]
end
theorem SV.val_upd (E : Env) (g b : Nat) (x : SV) (h : x.free g = true) : x.val (E.upd g b) = x.val E := SV.val_but (Env.upd_but E g b) x h
theorem SV.vals_upd (E : Env) (g b : Nat) (xs : List SV) (h : SV.frees g xs = true) : SV.vals (E.upd g b) xs = SV.vals E xs := SV.vals_but (Env.upd_but E g b) xs h

theorem StF.put (h : StF X sf bf rds grs E a w) {d : Nat} (hd : d < X.n) (sv : SV) : StF X (updF sf d sv) bf rds grs E (a.put (some d) (sv.val E)) w := by
  refine ⟨fun t x hx => ?_, by simp [Act.put, h.size], h.defers, h.kept, h.mem, h.sep, h.pin⟩
  unfold updF at hx
  split at hx
  · rename_i e
    subst e
    simp only [Option.some.injEq] at hx
    subst hx
    simp [Act.put, h.size, hd]
  · rename_i e
    have := h.slot t x hx
    simp only [Act.put]
    rw [Array.getElem?_setIfInBounds_ne (fun h => e h.symm)]
    exact this
theorem RdAt.move {w w' : World} {q : Q} {r : RS} (h : RdAt w q r) (hz : w.heap.size ≤ w'.heap.size) (hb : ∀ b off, 0 < q.len → r.A = some ⟨b, off, none⟩ → b < w.heap.size → w'.heap[b]? = w.heap[b]?) : RdAt w' q r := by
  obtain ⟨h1, h2, hcap, h3⟩ := h
  refine ⟨h1, h2, hcap, fun h0 => ?_⟩
  obtain ⟨b, off, h4, h5, h6⟩ := h3 h0
  exact ⟨b, off, h4, Nat.lt_of_lt_of_le h5 hz, fun i hi j v hv => (World.cell?_of_block (hb b off h0 h4 h5)).trans (h6 i hi j v hv)⟩
theorem GrAt.move {w w' : World} {B : Nat} {q : GQ} {v : Value} (h : GrAt w B q v) (hb : ∀ b, v.ownBlock = some b → w'.heap[b]? = w.heap[b]?) : GrAt w' B q v := by
  refine ⟨h.1, ?_⟩
  rcases h.2 with hn | ⟨g, cap, cur, e, hB, hg, rest⟩
  · exact .inl hn
  · exact .inr ⟨g, cap, cur, e, hB, (hb g (by rw [e]; rfl)).trans hg, rest⟩
/-- a callee, or a draw, has turned nothing old -/
theorem StF.later (h : StF X sf bf rds grs E a w) {w' : World} (hb : Below w.heap.size w w') : StF X sf bf rds grs E a w' := by
  refine ⟨h.slot, h.size, h.defers, h.kept.trans (Kept.of_below hb), ⟨fun g t cs hg => (hb.block _ (h.mem.blk g t cs hg).lt).trans (h.mem.blk g t cs hg), fun s q hq => (h.mem.rd s q hq).move hb.size fun b _ _ _ hl => hb.block b hl, fun k q hq => (h.mem.gr k q hq).move fun b hbb => hb.block b (World.ownsRow.lt (h.mem.gr k q hq) b hbb).2, h.mem.one⟩,
    ⟨h.sep.base, h.sep.inj, h.sep.ginj, h.sep.mix, h.sep.rd, fun g Φ hΦ => (h.sep.held g Φ hΦ).later hb⟩, h.pin⟩

theorem StF.ltB (h : StF X sf bf rds grs E a w) {k : Nat} (hk : OwnB bf grs E k) : k < w.heap.size := by
  rcases hk with ⟨g, t, cs, hg, rfl⟩ | ⟨j, q, hq, hb⟩
  · exact (h.mem.blk g t cs hg).lt
  · exact (World.ownsRow.lt (h.mem.gr j q hq) k hb).2
theorem StF.size0 (h : StF X sf bf rds grs E a w) : X.w0.heap.size ≤ w.heap.size := h.kept.size
theorem StF.rdlt (h : StF X sf bf rds grs E a w) {s : Nat} {q : Q} {b off : Nat} (hq : look rds s = some q) (hl : 0 < q.len) (hA : (E.sl s).A = some ⟨b, off, none⟩) : b < w.heap.size := by
  obtain ⟨b', off', hA', hlt, _⟩ := (h.mem.rd s q hq).2.2.2 hl
  rw [hA'] at hA
  have e : b' = b := by simpa using congrArg (fun o => (o.map Addr.block).getD 0) hA
  omega
/-- what a callee may use -/
theorem StF.memOf (h : StF X sf bf rds grs E a w) {m : MState} (hr : m.rds = rds) (hg : m.grs = grs) (hb : ∀ g y, look m.blks g = some y → bf g = some y) : Mem X.w0.heap.size (Apart X.w0.heap.size X.R bf grs E) m E w :=
  ⟨h.size0, fun g t cs hx => h.mem.blk g t cs (hb g _ hx), fun s q hq => h.mem.rd s q (hr ▸ hq), fun s q b off hq hl hA => h.sep.rd s q b off (hr ▸ hq) hl hA, fun k q hq => h.mem.gr k q (hg ▸ hq), fun g Φ hx => h.sep.held g Φ (hb g _ hx), h.mem.one⟩

/-- a new block -/
theorem StF.new (h : StF X sf bf rds grs E a w) {g : Nat} (hlt : g < 1000) (hg : bf g = none) (hs : ∀ t sv, sf t = some sv → sv.free g = true) (hb : ∀ g' y, bf g' = some y → y.free g = true)
    (t : TypeId) (cs : List SV) (hc : SV.frees g cs = true) : StF X sf (updF bf g (.blk t cs)) rds grs (E.upd g w.heap.size) a (w.alloc (.cells (SV.vals E cs).toArray t)) := by
  have hL := h.later (w' := w.alloc (.cells (SV.vals E cs).toArray t)) ((Below.refl _ _).alloc (Nat.le_refl _) _)
  have hold : ∀ k, OwnB (updF bf g (.blk t cs)) grs (E.upd g w.heap.size) k → OwnB bf grs E k ∨ k = w.heap.size := by
    rintro k (⟨g', t', cs', hx, rfl⟩ | hk)
    · unfold updF at hx
      split at hx
      · rename_i e; subst e; exact .inr (Env.upd_same _ _ _)
      · rename_i e; rw [Env.upd_ne E _ e]; exact .inl (.inl ⟨g', t', cs', hx, rfl⟩)
    · exact .inl (.inr hk)
  have hne : ∀ g' x, bf g' = some x → g' ≠ g := fun g' x hx e => by subst e; rw [hg] at hx; cases hx
  have hap : ∀ k, k < w.heap.size → Apart X.w0.heap.size X.R bf grs E k → Apart X.w0.heap.size X.R (updF bf g (.blk t cs)) grs (E.upd g w.heap.size) k := fun k hk h1 => ⟨fun ho => by
    rcases hold k ho with h2 | h2
    · exact h1.1 h2
    · omega, h1.2⟩
  refine ⟨fun k sv hk => (h.slot k sv hk).trans (by rw [SV.val_upd E g _ sv (hs k sv hk)]), h.size, h.defers, hL.kept, ⟨fun g' t' cs' hx => ?_, hL.mem.rd, hL.mem.gr, h.mem.one⟩, ⟨fun g' t' cs' hx => ?_, fun g1 g2 t1 t2 c1 c2 h1 h2 e => ?_, h.sep.ginj, fun g' k t' cs' y hx hy => ?_, fun s q b off hq hl hA => hap b (h.rdlt hq hl hA) (h.sep.rd s q b off hq hl hA), fun g' Φ hx => ?_⟩, fun k hk => (Env.upd_ne E _ (by omega)).trans (h.pin.1 k hk), h.pin.2⟩
  · unfold updF at hx
    split at hx
    · rename_i e
      subst e
      simp only [Option.some.injEq, BE.blk.injEq] at hx
      obtain ⟨rfl, rfl⟩ := hx
      rw [Env.upd_same, SV.vals_upd E g' _ cs hc]
      exact Blk.new _ _ _
    · rename_i e
      rw [Env.upd_ne E _ e, SV.vals_upd E g _ cs' (hb g' _ hx)]
      exact hL.mem.blk g' t' cs' hx
  · unfold updF at hx
    split at hx
    · rename_i e; subst e; rw [Env.upd_same]; exact .inl h.size0
    · rename_i e; rw [Env.upd_ne E _ e]; exact h.sep.base g' t' cs' hx
  · have lt : ∀ g' t' cs', bf g' = some (.blk t' cs') → E.ρ g' < w.heap.size := fun g' t' cs' hx => (h.mem.blk g' t' cs' hx).lt
    unfold updF at h1 h2
    split at h1 <;> split at h2
    · omega
    · rename_i e1 e2; subst e1; rw [Env.upd_same, Env.upd_ne E _ e2] at e; have := lt g2 _ _ h2; omega
    · rename_i e1 e2; subst e2; rw [Env.upd_same, Env.upd_ne E _ e1] at e; have := lt g1 _ _ h1; omega
    · rename_i e1 e2; rw [Env.upd_ne E _ e1, Env.upd_ne E _ e2] at e; exact h.sep.inj g1 g2 _ _ _ _ h1 h2 e
  · have hgl : ∀ b, (E.gr k).ownBlock = some b → b < w.heap.size := fun b hb => (World.ownsRow.lt (h.mem.gr k y hy) b hb).2
    unfold updF at hx
    split at hx
    · rename_i e; subst e; rw [Env.upd_same]; intro he; have := hgl _ he; omega
    · rename_i e; rw [Env.upd_ne E _ e]; exact h.sep.mix g' k _ _ y hx hy
  · unfold updF at hx
    split at hx
    · simp at hx
    · exact ((h.sep.held g' Φ hx).mono hap).later ((Below.refl _ _).alloc (Nat.le_refl _) _)

theorem heap_setRow_ne (w : World) (g k : Nat) (cs : Array Value) (h : k ≠ g) : (w.setRow g cs).heap[k]? = w.heap[k]? := by
  simp only [World.setRow, Array.getElem?_modify]
  rw [if_neg (fun e => h e.symm)]
/-- a block is written -/
theorem StF.store (h : StF X sf bf rds grs E a w) {g : Nat} {t : TypeId} {cs : List SV} (hg : bf g = some (.blk t cs)) (cs' : List SV) : StF X sf (updF bf g (.blk t cs')) rds grs E a (w.setRow (E.ρ g) (SV.vals E cs').toArray) := by
  have hk : Kept (fun k => k = E.ρ g) w (w.setRow (E.ρ g) (SV.vals E cs').toArray) := ⟨rfl, rfl, rfl, by simp [World.setRow], fun k _ hn => heap_setRow_ne _ _ _ _ hn⟩
  have hown : OwnB bf grs E (E.ρ g) := .inl ⟨g, _, _, hg, rfl⟩
  have hold : ∀ k, OwnB (updF bf g (.blk t cs')) grs E k → OwnB bf grs E k := by
    rintro k (⟨g', t2, c2, hx, rfl⟩ | hk)
    · unfold updF at hx
      split at hx
      · rename_i e; subst e; exact hown
      · exact .inl ⟨g', t2, c2, hx, rfl⟩
    · exact .inr hk
  have hap : ∀ k, Apart X.w0.heap.size X.R bf grs E k → Apart X.w0.heap.size X.R (updF bf g (.blk t cs')) grs E k := fun k h1 => ⟨fun ho => h1.1 (hold k ho), h1.2⟩
  have hne : ∀ k, k < X.w0.heap.size → ¬ X.C k → k ≠ E.ρ g := fun k hlt hC e => by
    subst e
    rcases h.sep.base g _ _ hg with h1 | h1
    · omega
    · exact hC h1
  have hbn : ∀ k, k ≠ E.ρ g → (w.setRow (E.ρ g) (SV.vals E cs').toArray).heap[k]? = w.heap[k]? := fun k hk => heap_setRow_ne _ _ _ _ hk
  have hapn : ∀ k, Apart X.w0.heap.size X.R bf grs E k → k ≠ E.ρ g := fun k h1 e => h1.1 (e ▸ hown)
  refine ⟨h.slot, h.size, h.defers, ⟨h.kept.os, h.kept.tape, h.kept.output, Nat.le_trans h.kept.size hk.size, fun k hlt hC => (hbn k (hne k hlt hC)).trans (h.kept.block k hlt hC)⟩, ⟨fun g' t' c hx => ?_, fun s q hq => (h.mem.rd s q hq).move hk.size fun b off hl hA _ => hbn b (hapn b (h.sep.rd s q b off hq hl hA)),
    fun k q hq => (h.mem.gr k q hq).move fun b hb => hbn b (fun e => h.sep.mix g k _ _ q hg hq (by rw [hb, e])), h.mem.one⟩, ⟨fun g' t' c' hx => ?_, fun g1 g2 t1 t2 c1 c2 h1 h2 e => ?_, h.sep.ginj, fun g' k t' c' y hx hy => ?_, fun s q b off hq hl hA => hap b (h.sep.rd s q b off hq hl hA), fun g' Φ hx => ?_⟩, h.pin⟩
  · unfold updF at hx
    split at hx
    · rename_i e
      subst e
      simp only [Option.some.injEq, BE.blk.injEq] at hx
      obtain ⟨rfl, rfl⟩ := hx
      exact setRow_heap w _ _ _ _ _ (h.mem.blk g' _ _ hg)
    · rename_i e
      have := h.mem.blk g' t' c hx
      unfold Blk at this ⊢
      rw [hbn _ (fun e' => e (h.sep.inj g' g _ _ _ _ hx hg e'))]
      exact this
  · unfold updF at hx
    split at hx
    · rename_i e; subst e; exact h.sep.base g' _ _ hg
    · exact h.sep.base g' _ _ hx
  · unfold updF at h1 h2
    split at h1 <;> split at h2
    · omega
    · rename_i e1 e2; subst e1; exact h.sep.inj _ _ _ _ _ _ hg h2 e
    · rename_i e1 e2; subst e2; exact h.sep.inj _ _ _ _ _ _ h1 hg e
    · exact h.sep.inj _ _ _ _ _ _ h1 h2 e
  · unfold updF at hx
    split at hx
    · rename_i e; subst e; exact h.sep.mix g' k _ _ y hg hy
    · exact h.sep.mix g' k _ _ y hx hy
  · unfold updF at hx
    split at hx
    · simp at hx
    · exact ((h.sep.held g' Φ hx).mono fun k _ h1 => hap k h1).move hk.size fun k _ h1 => hbn k (fun e => h1.1 (by
        subst e
        exact .inl ⟨g, t, cs', by simp [updF], rfl⟩))

/-- letters come in -/
theorem StF.letter (h : StF X sf bf rds grs E a w) {g : Nat} (hlt : g < 1000) (hg : bf g = none) (hs : ∀ t sv, sf t = some sv → sv.free g = true) (hb : ∀ g' y, bf g' = some y → y.free g = true)
    (Φ : (Nat → Value) → World → Prop) (v : Nat → Value) (h1 : ∀ i, (v i).oneCell' = true) (hh : HeldIn (Apart X.w0.heap.size X.R bf grs E) w (Φ v)) : StF X sf (updF bf g (.held Φ)) rds grs (E.updX g v) a w := by
  have hold : ∀ k, OwnB (updF bf g (.held Φ)) grs (E.updX g v) k → OwnB bf grs E k := by
    rintro k (⟨g', t', cs', hx, rfl⟩ | hk)
    · unfold updF at hx
      split at hx
      · simp at hx
      · exact .inl ⟨g', t', cs', hx, rfl⟩
    · exact .inr hk
  have hap : ∀ k, k < w.heap.size → Apart X.w0.heap.size X.R bf grs E k → Apart X.w0.heap.size X.R (updF bf g (.held Φ)) grs (E.updX g v) k := fun k _ h1 => ⟨fun ho => h1.1 (hold k ho), h1.2⟩
  have hu : ∀ {g' t' cs'}, updF bf g (.held Φ) g' = some (.blk t' cs') → bf g' = some (.blk t' cs') := fun {g' t' cs'} hx => by
    unfold updF at hx
    split at hx
    · simp at hx
    · exact hx
  refine ⟨fun k sv hk => (h.slot k sv hk).trans (by rw [SV.val_but (Env.updX_but E g v) sv (hs k sv hk)]), h.size, h.defers, h.kept, ⟨fun g' t' cs' hx => ?_, h.mem.rd, h.mem.gr, fun g' i => ?_⟩,
    ⟨fun g' t' cs' hx => h.sep.base g' t' cs' (hu hx), fun g1 g2 t1 t2 c1 c2 h1 h2 e => h.sep.inj g1 g2 _ _ _ _ (hu h1) (hu h2) e, h.sep.ginj, fun g' k t' cs' y hx hy => h.sep.mix g' k _ _ y (hu hx) hy, fun s q b off hq hl hA => hap b (h.rdlt hq hl hA) (h.sep.rd s q b off hq hl hA), fun g' Φ' hx => ?_⟩, h.pin.1, h.pin.2.1, fun k hk => (Env.updX_ne E v (by omega)).trans (h.pin.2.2 k hk)⟩
  · rw [SV.vals_but (Env.updX_but E g v) cs' (hb g' _ (hu hx))]
    exact h.mem.blk g' t' cs' (hu hx)
  · by_cases e : g' = g
    · subst e; rw [Env.updX_same]; exact h1 i
    · rw [Env.updX_ne E v e]; exact h.mem.one g' i
  · unfold updF at hx
    split at hx
    · rename_i e
      subst e
      simp only [Option.some.injEq, BE.held.injEq] at hx
      subst hx
      rw [Env.updX_same]
      exact hh.mono hap
    · rename_i e
      rw [Env.updX_ne E v e]
      exact (h.sep.held g' Φ' hx).mono hap
end Go.Proofs.Ytlcccomdijdkaaa
