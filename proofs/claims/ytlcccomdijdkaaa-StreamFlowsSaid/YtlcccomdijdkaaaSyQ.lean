/- A closure is entered: with the blocks that it has caught. -/
import Derived.Test.YtlcccomdijdkaaaSyP
namespace Go.Proofs.Ytlcccomdijdkaaa
open Go.RowKit

variable {P : Program} {X : Ctx} {E : Env} {a : Act} {w : World} {st : SState}

/-- a block that was caught: its number, where it is, its type, its cells -/
structure CB where
  g : Nat
  b : Nat
  t : TypeId
  cs : List SV
def blksOf : List CB → List (Nat × BE)
  | [] => []
  | x :: r => (x.g, .blk x.t x.cs) :: blksOf r
def rhoOf : List CB → Nat → Nat
  | [], _ => 0
  | x :: r, g => bif Nat.beq x.g g then x.b else rhoOf r g
def envC (sls : List (Nat × RS)) (xs : List (Nat × (Nat → Value))) (cbs : List CB) : Env := { envOf sls xs with ρ := rhoOf cbs }
def AllCB (w : World) (E : Env) : List CB → Prop
  | [] => True
  | x :: r => Blk w x.b x.t (SV.vals E x.cs).toArray ∧ AllCB w E r
def NotCB (b : Nat) : List CB → Prop
  | [] => True
  | x :: r => b ≠ x.b ∧ NotCB b r
def ApartCB : List CB → Prop
  | [] => True
  | x :: r => NotCB x.b r ∧ ApartCB r
def AllRC (E : Env) (cbs : List CB) : List (Nat × Q) → Prop
  | [] => True
  | (s, q) :: r => InR (fun b => NotCB b cbs) (E.sl s).A q.len ∧ AllRC E cbs r
def KeepCB (st : SState) : List CB → Prop
  | [] => True
  | x :: r => look st.m.blks x.g = some (.blk x.t x.cs) ∧ KeepCB st r
def bigG : List CB → Bool
  | [] => true
  | x :: r => Nat.ble 1000 x.g && bigG r
theorem blksOf_look : ∀ {cbs : List CB} {g : Nat} {y : BE}, look (blksOf cbs) g = some y → ∃ x ∈ cbs, x.g = g ∧ y = .blk x.t x.cs ∧ rhoOf cbs g = x.b
  | [], g, y, h => by simp [blksOf, look] at h
  | x :: r, g, y, h => by
    rcases look_cases h with ⟨h1, rfl⟩ | ⟨hne, h2⟩
    · exact ⟨x, List.mem_cons_self, h1, rfl, by simp [rhoOf, h1]⟩
    · obtain ⟨z, hz, k1, k2, k3⟩ := blksOf_look h2
      have hb : Nat.beq x.g g = false := by
        cases e : Nat.beq x.g g with
        | false => rfl
        | true => exact absurd (Nat.eq_of_beq_eq_true e) hne
      exact ⟨z, List.mem_cons_of_mem _ hz, k1, k2, by simp only [rhoOf, hb, cond_false, k3]⟩
theorem AllCB.get {E : Env} : ∀ {l : List CB}, AllCB w E l → ∀ x ∈ l, Blk w x.b x.t (SV.vals E x.cs).toArray
  | _ :: _, h, x, hx => by
    rcases List.mem_cons.1 hx with rfl | hx
    · exact h.1
    · exact AllCB.get h.2 x hx
theorem NotCB.get {b : Nat} : ∀ {l : List CB}, NotCB b l → ∀ x ∈ l, b ≠ x.b
  | _ :: _, h, x, hx => by
    rcases List.mem_cons.1 hx with rfl | hx'
    · exact h.1
    · exact NotCB.get h.2 x hx'
theorem ApartCB.get : ∀ {l : List CB}, ApartCB l → ∀ x ∈ l, ∀ y ∈ l, x.b = y.b → x = y
  | z :: r, h, x, hx, y, hy, e => by
    rcases List.mem_cons.1 hx with rfl | hx' <;> rcases List.mem_cons.1 hy with h1 | hy'
    · exact h1.symm
    · exact absurd e (NotCB.get h.1 y hy')
    · subst h1; exact absurd e.symm (NotCB.get h.1 x hx')
    · exact ApartCB.get h.2 x hx' y hy' e
theorem AllRC.get {cbs : List CB} {E : Env} : ∀ {l : List (Nat × Q)}, AllRC E cbs l → ∀ s q, look l s = some q → InR (fun b => NotCB b cbs) (E.sl s).A q.len
  | [], _, s, q, h => by simp [look] at h
  | (k, x) :: r, h, s, q, hq => by
    rcases look_cases hq with ⟨rfl, rfl⟩ | ⟨_, h2⟩
    · exact h.1
    · exact AllRC.get h.2 s q h2
abbrev inCB (cbs : List CB) : Nat → Prop := fun k => ∃ x ∈ cbs, x.b = k

theorem sym_closure {f : FuncId} {fn : Func} {c : Code} {W : World} {T : Ending → World → Prop} (hf : P.funcs[f]? = some fn) (hb : fn.body = some c) (svs : List SV) (rds : List (Nat × Q)) (sls : List (Nat × RS)) (cbs : List CB) (blks : List (Nat × BE)) (hbl : blksOf cbs = blks) (hn : Nat.ble svs.length fn.ntmps = true)
    (hB : AllCB W (envC sls [] cbs) cbs) (hA : ApartCB cbs) (hr : AllRd W (envC sls [] cbs) rds) (hrC : AllRC (envC sls [] cbs) cbs rds)
    (h : ∀ E a w, St ⟨W, inCB cbs, fn.ntmps, [], allR, rhoOf cbs, (envOf sls).sl, (envOf sls).x⟩ ⟨argSlots 0 svs, ⟨blks, rds, []⟩⟩ E a w → c.wp P (bodyPost P fn T) a w) : Calls P f (SV.vals (envC sls [] cbs) svs).toArray W T := by
  subst hbl
  refine sym_enter hf hb svs rds (blksOf cbs) (envC sls [] cbs) (inCB cbs) allR (rhoOf cbs) (fun _ _ => rfl) hn (envOf_one (xs := []) (sls := sls) trivial) (fun g t cs hx => ?_) (fun g g' t t' cs cs' hx hy e => ?_) (fun g Φ hx => ?_) hr (fun s q b off hq hl hA' => ⟨trivial, fun g t cs hx e => ?_⟩) (fun a w S => h _ a w S)
  · obtain ⟨x, hx1, _, hx2, hx3⟩ := blksOf_look hx
    simp only [BE.blk.injEq] at hx2
    obtain ⟨rfl, rfl⟩ := hx2
    have := hB.get x hx1
    rw [show (envC sls [] cbs).ρ g = x.b from hx3]
    exact ⟨this, x, hx1, rfl⟩
  · obtain ⟨x, hx1, rfl, _, hx3⟩ := blksOf_look hx
    obtain ⟨y, hy1, rfl, _, hy3⟩ := blksOf_look hy
    have e' : x.b = y.b := by rw [← hx3, ← hy3]; exact e
    rw [hA.get x hx1 y hy1 e']
  · obtain ⟨x, _, _, hx2, _⟩ := blksOf_look hx
    cases hx2
  · obtain ⟨x, hx1, _, _, hx3⟩ := blksOf_look hx
    exact (hrC.get s q hq b off hl hA').get x hx1 (by rw [← e]; exact hx3)
/-- the caught blocks are as they were, if their cells are -/
theorem KeepCB.get : ∀ {l : List CB}, KeepCB st l → ∀ x ∈ l, look st.m.blks x.g = some (.blk x.t x.cs)
  | _ :: _, h, x, hx => by
    rcases List.mem_cons.1 hx with rfl | hx
    · exact h.1
    · exact KeepCB.get h.2 x hx
theorem bigG_ok : ∀ {l : List CB}, bigG l = true → ∀ x ∈ l, 1000 ≤ x.g
  | _ :: _, h, x, hx => by
    simp only [bigG, Bool.and_eq_true] at h
    rcases List.mem_cons.1 hx with rfl | hx
    · exact Nat.le_of_ble_eq_true h.1
    · exact bigG_ok h.2 x hx
theorem rhoOf_mem : ∀ {l : List CB}, ApartCB l → (l.map CB.g).Nodup → ∀ x ∈ l, rhoOf l x.g = x.b
  | y :: r, hA, hn, x, hx => by
    simp only [List.map_cons, List.nodup_cons] at hn
    rcases List.mem_cons.1 hx with rfl | hx'
    · simp [rhoOf]
    · have hne : y.g ≠ x.g := fun e => hn.1 (e ▸ List.mem_map_of_mem hx')
      have hb : Nat.beq y.g x.g = false := by
        cases e : Nat.beq y.g x.g with
        | false => rfl
        | true => exact absurd (Nat.eq_of_beq_eq_true e) hne
      simp only [rhoOf, hb, cond_false]
      exact rhoOf_mem hA.2 hn.2 x hx'
/-- cells that hang on nothing but the arguments' slices -/
def plainC : List SV → Bool
  | [] => true
  | .v _ :: r => plainC r
  | .sl s :: r => Nat.blt s 1000 && plainC r
  | .own g _ :: r => Nat.ble 1000 g && plainC r
  | .fn _ [.own g _] :: r => Nat.ble 1000 g && plainC r
  | .fn _ [.own g _, .own g' _] :: r => Nat.ble 1000 g && Nat.ble 1000 g' && plainC r
  | _ :: _ => false
def plainCB : List CB → Bool
  | [] => true
  | x :: r => plainC x.cs && plainCB r
theorem plainCB_ok : ∀ {l : List CB}, plainCB l = true → ∀ x ∈ l, plainC x.cs = true
  | _ :: _, h, x, hx => by
    simp only [plainCB, Bool.and_eq_true] at h
    rcases List.mem_cons.1 hx with rfl | hx'
    · exact h.1
    · exact plainCB_ok h.2 x hx'
theorem plain_vals {E' : Env} (h : ∀ s, s < 1000 → E.sl s = E'.sl s) (hρ : ∀ g, 1000 ≤ g → E.ρ g = E'.ρ g) : ∀ cs : List SV, plainC cs = true → SV.vals E cs = SV.vals E' cs
  | [], _ => by simp [SV.vals]
  | .v x :: r, hp => by simp only [SV.vals, SV.val, plain_vals h hρ r hp]
  | .sl s :: r, hp => by
    simp only [plainC, Bool.and_eq_true] at hp
    simp only [SV.vals, SV.val, plain_vals h hρ r hp.2, h s (Nat.lt_of_succ_le (Nat.le_of_ble_eq_true hp.1))]
  | .own g off :: r, hp => by
    simp only [plainC, Bool.and_eq_true] at hp
    simp only [SV.vals, SV.val, plain_vals h hρ r hp.2, hρ g (Nat.le_of_ble_eq_true hp.1)]
  | .fn f [.own g off] :: r, hp => by
    simp only [plainC, Bool.and_eq_true] at hp
    simp only [SV.vals, SV.val, plain_vals h hρ r hp.2, hρ g (Nat.le_of_ble_eq_true hp.1)]
  | .fn f [.own g off, .own g' off'] :: r, hp => by
    simp only [plainC, Bool.and_eq_true] at hp
    simp only [SV.vals, SV.val, plain_vals h hρ r hp.2, hρ g (Nat.le_of_ble_eq_true hp.1.1), hρ g' (Nat.le_of_ble_eq_true hp.1.2)]
theorem St.below_cb {cbs : List CB} {rds0 : List (Nat × RS)} (S : St X st E a w) (hC : X.C = inCB cbs) (hρ : X.ρ0 = rhoOf cbs) (hs0 : X.sl0 = (envOf rds0).sl) (hk : KeepCB st cbs) (hg : bigG cbs = true) (hA : ApartCB cbs) (hn : (cbs.map CB.g).Nodup) (hB : AllCB X.w0 (envC rds0 [] cbs) cbs) (hsl : plainCB cbs = true) : Below X.w0.heap.size X.w0 w :=
  S.below_c fun k hk' => by
    rw [hC] at hk'
    obtain ⟨x, hx, rfl⟩ := hk'
    refine ⟨x.g, x.t, x.cs, hk.get x hx, (S.pin.1 x.g (bigG_ok hg x hx)).trans (by rw [hρ]; exact rhoOf_mem hA hn x hx), ?_⟩
    rw [plain_vals (E' := envC rds0 [] cbs) (fun s hs => (S.pin.2.1 s hs).trans (by rw [hs0]; rfl)) (fun g hg => (S.pin.1 g hg).trans (by rw [hρ]; rfl)) x.cs (plainCB_ok hsl x hx)]
    exact hB.get x hx
end Go.Proofs.Ytlcccomdijdkaaa
