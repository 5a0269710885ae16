/- Slices that calls have returned, handed on as they are: they are new. -/
import Derived.Test.YtlcccomdijdkaaaSyCut
namespace Go.Proofs.Ytlcccomdijdkaaa
open Go.RowKit

variable {P : Program} {X : Ctx} {E : Env} {a : Act} {w : World} {st : SState}

/-- letter 0 is such a slice, and lies in no block of below B -/
def SliceNew (B : Nat) (q : Q) : (Nat → Value) → World → Prop := fun v w => SliceIs 0 q v w ∧ ∀ A n c, v 0 = .slice A n c → InR (fun k => B ≤ k) A n
theorem SliceNew.of {B N : Nat} {q : Q} {v : Nat → Value} (hB : B ≤ N) (h : HeldIn (fun k => N ≤ k) w (SlicesAre 0 [q] v)) (h0 : 0 < q.len → q.get 0 ≠ []) : HeldIn (fun k => N ≤ k) w (SliceNew B q v) := by
  obtain ⟨⟨A, cap, hv, hcap, hs⟩, _⟩ := h.out
  have hr : InR (fun k => N ≤ k) A q.len := h.row (fun w' hw' => by
    obtain ⟨⟨A', cap', hv', _, hs'⟩, _⟩ := hw'
    rw [hv] at hv'
    injection hv' with e
    rw [e]; exact hs') h0
  obtain ⟨D, hD, hk⟩ := h
  exact ⟨D, hD, fun w' hw' => ⟨(hk w' hw').1, fun A' n c e b off hl hA => by
    rw [hv] at e
    injection e with e1 e2 e3
    subst e1 e2
    exact Nat.le_trans hB (hr b off hl hA)⟩⟩
/-- it is returned -/
theorem SliceNew.back {R : Nat → Prop} {B : Nat} {q : Q} {v u : Nat → Value} {j : Nat} (h : HeldIn R w (SliceNew B q v)) (hu : u j = v 0) (h0 : ∀ i, i < q.len → q.get i ≠ []) : HeldIn (fun k => B ≤ k) w (SliceIs j q u) := by
  obtain ⟨⟨A, cap, hv, hcap, hs⟩, hn⟩ := h.out
  have hN := hn _ _ _ hv
  rcases Nat.eq_zero_or_pos q.len with hz | hz
  · exact ⟨fun _ => False, fun k hk => hk.elim, fun w' _ => ⟨A, cap, hu.trans hv, hcap, fun hl => by omega⟩⟩
  · obtain ⟨b, off, hA, hlt, hc⟩ := hs hz
    refine ⟨fun k => k = b, fun k hk => by subst hk; exact ⟨hlt, hN k off hz hA⟩, fun w' hw' => ⟨A, cap, hu.trans hv, hcap, fun _ => ⟨b, off, hA, ?_, fun i hi j v hj => (World.cell?_of_block (hw' b rfl)).trans (hc i hi j v hj)⟩⟩⟩
    have h1 : w.heap[b]? = some w.heap[b] := by simp [hlt]
    have := (hw' b rfl).trans h1
    exact (Array.getElem?_eq_some_iff.1 this).1
/-- how long it is -/
theorem pure_len {lay : Lay} (hl : LayOK P lay) {B g j s n : Nat} {t : TypeId} {Φ : (Nat → Value) → World → Prop} {m : MState} {e es k : Nat} {z : List Value} {eq : Bool} {by' : Nat} (ht : look lay t = some ⟨.sli e es, k, z, eq, by'⟩) (hm : look m.blks g = some (.held Φ)) (hΦ : ∀ v w, Φ v w → ∃ A c, v j = .slice A n c) :
    (Ob.pure m (.call ⟨.builtin .len, #[.tmp s], #[t]⟩) [.ltr g j] (.v (.int .i64 n))).holds P B := by
  intro E w R ρ dst ty pos aft gd hM hx
  obtain ⟨A, c, hv⟩ := hΦ _ _ (hM.held g Φ hm).out
  have e1 : ρ (.tmp s) = .slice A n c := by
    have : ρ (.tmp s) = E.x g j := by simpa [Op.operands, Call.operands, SV.vals, SV.val] using hx
    rw [this, hv]
  obtain ⟨u, hu, hmm⟩ := (hl t _ ht).under
  obtain ⟨rfl, _⟩ := hmm
  simp only [execOp, resolve, Sem.run_bind, Sem.run_pure, Result.andThen_ok, invoke, builtin, Builtin.len_]
  simp [run_underlying hu, goInt, go_sem, e1, SV.val]
/-- a slice that is read stays as it is while its block does -/
theorem St.rd_held (S : St X st E a w) {s : Nat} {q : Q} (hq : look st.m.rds s = some q) (h0 : ∀ i, i < q.len → q.get i ≠ []) : HeldIn (fun k => X.w0.heap.size ≤ k ∨ X.R k) w (fun w' => RdAt w' q (E.sl s)) := by
  obtain ⟨h1, h2, h3, h4⟩ := S.mem.rd s q hq
  rcases Nat.eq_zero_or_pos q.len with hz | hz
  · exact ⟨fun _ => False, fun k hk => hk.elim, fun w' _ => ⟨h1, h2, h3, fun hl => by omega⟩⟩
  · obtain ⟨b, off, hA, hlt, hc⟩ := h4 hz
    refine ⟨fun k => k = b, fun k hk => by subst hk; exact ⟨hlt, (S.sep.rd s q _ off hq hz hA).2⟩, fun w' hw' => ⟨h1, h2, h3, fun _ => ⟨b, off, hA, ?_, fun i hi j v hj => (World.cell?_of_block (hw' b rfl)).trans (hc i hi j v hj)⟩⟩⟩
    have h1 : w.heap[b]? = some w.heap[b] := by simp [hlt]
    have := (hw' b rfl).trans h1
    exact (Array.getElem?_eq_some_iff.1 this).1
theorem RdAt.sl {q : Q} {r : RS} (h : RdAt w q r) : r.len = q.len ∧ q.len ≤ r.cap ∧ SlAt w r.A q.len q.n q.get := ⟨h.1, h.2.2.1, h.2.2.2⟩
end Go.Proofs.Ytlcccomdijdkaaa
