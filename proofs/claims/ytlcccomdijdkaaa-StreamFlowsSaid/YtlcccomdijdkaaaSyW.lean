/- States made of frames and of what is known of blocks, with a row that grows. -/
import Derived.Test.YtlcccomdijdkaaaSyV
namespace Go.Proofs.Ytlcccomdijdkaaa
open Go.RowKit

/-- a state, made of a frame -/
def AllSl (a : Act) (E : Env) : List (Nat × SV) → Prop
  | [] => True
  | (t, sv) :: r => a.tmps[t]? = some (sv.val E) ∧ AllSl a E r
theorem AllSl.get {a : Act} {E : Env} : ∀ {l : List (Nat × SV)}, AllSl a E l → ∀ t sv, look l t = some sv → a.tmps[t]? = some (sv.val E)
  | [], _, t, sv, h => by simp [look] at h
  | (k, x) :: r, h, t, sv, hs => by
    rcases look_cases hs with ⟨rfl, rfl⟩ | ⟨_, h2⟩
    · exact h.1
    · exact AllSl.get h.2 t sv h2
theorem St.make (cbs : List CB) {slots : List (Nat × SV)} {a : Act} {w : World} {n : Nat} (hs : AllSl a (envC [] [] cbs) slots) (hz : a.tmps.size = n) (hd : a.defers = []) (hB : AllCB w (envC [] [] cbs) cbs) (hA : ApartCB cbs) :
    St ⟨w, inCB cbs, n, [], allR, rhoOf cbs, (envOf []).sl, (envOf []).x⟩ ⟨slots, ⟨blksOf cbs, [], []⟩⟩ (envC [] [] cbs) a w := by
  refine ⟨hs.get, hz, hd, Kept.refl _ _, ⟨fun g t cs hx => ?_, fun s q hq => by simp [look] at hq, fun k q hq => by simp [look] at hq, envOf_one (xs := []) (sls := []) trivial⟩,
    ⟨fun g t cs hx => ?_, fun g g' t t' cs cs' hx hy e => ?_, ⟨fun k k' x y b hx => by simp [look] at hx, fun k x b hx => by simp [look] at hx⟩, fun g k t cs y _ hy => by simp [look] at hy, fun s q b off hq => by simp [look] at hq, fun g Φ hx => ?_⟩, fun _ _ => rfl, fun _ _ => rfl, fun _ _ => rfl⟩
  · obtain ⟨x, hx1, _, hx2, hx3⟩ := blksOf_look hx
    simp only [BE.blk.injEq] at hx2
    obtain ⟨rfl, rfl⟩ := hx2
    have := hB.get x hx1
    rw [show (envC [] [] cbs).ρ g = x.b from hx3]
    exact this
  · obtain ⟨x, hx1, _, _, hx3⟩ := blksOf_look hx
    exact .inr ⟨x, hx1, hx3.symm⟩
  · obtain ⟨x, hx1, rfl, _, hx3⟩ := blksOf_look hx
    obtain ⟨y, hy1, rfl, _, hy3⟩ := blksOf_look hy
    have e' : x.b = y.b := by rw [← hx3, ← hy3]; exact e
    rw [hA.get x hx1 y hy1 e']
  · obtain ⟨x, _, _, hx2, _⟩ := blksOf_look hx
    cases hx2

abbrev envG (cbs : List CB) (V : Value) : Env := { envC [] [] cbs with gr := fun _ => V }
theorem St.make2 (cbs : List CB) (k : Nat) (q : GQ) (V : Value) {slots : List (Nat × SV)} {a : Act} {w : World} {n : Nat} (hs : AllSl a (envG cbs V) slots) (hz : a.tmps.size = n) (hB : AllCB w (envG cbs V) cbs) (hA : ApartCB cbs) (hG : GrAt w 0 q V) (hV : ∀ b, V.ownBlock = some b → NotCB b cbs) :
    St ⟨w, fun b => inCB cbs b ∨ V.ownBlock = some b, n, a.defers, allR, rhoOf cbs, (envOf []).sl, (envOf []).x⟩ ⟨slots, ⟨blksOf cbs, [], [(k, q)]⟩⟩ (envG cbs V) a w := by
  have one : ∀ {j y}, look [(k, q)] j = some y → j = k ∧ y = q := fun {j y} h => by
    rcases look_cases h with ⟨rfl, rfl⟩ | ⟨_, h2⟩
    · exact ⟨rfl, rfl⟩
    · simp [look] at h2
  refine ⟨hs.get, hz, rfl, Kept.refl _ _, ⟨fun g t cs hx => ?_, fun s q hq => by simp [look] at hq, fun j y hq => ?_, envOf_one (xs := []) (sls := []) trivial⟩,
    ⟨fun g t cs hx => ?_, fun g g' t t' cs cs' hx hy e => ?_, ⟨fun j j' x y b hx hy _ _ => (one hx).1.trans (one hy).1.symm, fun j x b _ hb => .inr (.inr hb)⟩, fun g j t cs y hx _ => ?_, fun s q b off hq => by simp [look] at hq, fun g Φ hx => ?_⟩, fun _ _ => rfl, fun _ _ => rfl, fun _ _ => rfl⟩
  · obtain ⟨x, hx1, _, hx2, hx3⟩ := blksOf_look hx
    simp only [BE.blk.injEq] at hx2
    obtain ⟨rfl, rfl⟩ := hx2
    have := hB.get x hx1
    rw [show (envG cbs V).ρ g = x.b from hx3]
    exact this
  · obtain ⟨_, rfl⟩ := one hq
    exact hG
  · obtain ⟨x, hx1, _, _, hx3⟩ := blksOf_look hx
    exact .inr (.inl ⟨x, hx1, hx3.symm⟩)
  · obtain ⟨x, hx1, rfl, _, hx3⟩ := blksOf_look hx
    obtain ⟨y, hy1, rfl, _, hy3⟩ := blksOf_look hy
    have e' : x.b = y.b := by rw [← hx3, ← hy3]; exact e
    rw [hA.get x hx1 y hy1 e']
  · obtain ⟨x, hx1, _, _, hx3⟩ := blksOf_look hx
    intro he
    exact (hV _ he).get x hx1 hx3
  · obtain ⟨x, _, _, hx2, _⟩ := blksOf_look hx
    cases hx2
end Go.Proofs.Ytlcccomdijdkaaa
