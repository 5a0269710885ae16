/- Slices that calls return; slices that have grown, read; literal rows handed over. -/
import Derived.Test.YtlcccomdijdkaaaSyN
namespace Go.Proofs.Ytlcccomdijdkaaa
open Go.RowKit

variable {P : Program} {X : Ctx} {sf : Nat → Option SV} {bf : BF} {rds : List (Nat × Q)} {grs : List (Nat × GQ)} {E : Env} {a : Act} {w : World} {st : SState}

/-- letter i is such a slice -/
def SliceIs (i : Nat) (q : Q) : (Nat → Value) → World → Prop := fun v w => ∃ A cap, v i = .slice A q.len cap ∧ q.len ≤ cap ∧ SlAt w A q.len q.n q.get
def SlicesAre : Nat → List Q → (Nat → Value) → World → Prop
  | _, [], _, _ => True
  | i, q :: r, v, w => SliceIs i q v w ∧ SlicesAre (i + 1) r v w
/-- what is held of a slice cannot hang on other blocks than its own -/
theorem HeldIn.row {R : Nat → Prop} {A : Option Addr} {len n : Nat} {get : Nat → List Value} {Φ : World → Prop} (h : HeldIn R w Φ) (hs : ∀ w, Φ w → SlAt w A len n get) (h0 : 0 < len → get 0 ≠ []) : InR R A len := fun b off hl hA => by
  obtain ⟨D, hD, hk⟩ := h
  by_cases hb : D b
  · exact (hD b hb).2
  · exfalso
    have h1 := hs _ (hk { w with heap := w.heap.setIfInBounds b (.cells #[] 0 (0, 0)) } fun k hkD => by
      have hne : b ≠ k := fun e => hb (e ▸ hkD)
      simp [Array.getElem?_setIfInBounds_ne hne])
    obtain ⟨b', off', hA', hlt, hc⟩ := h1 hl
    rw [hA] at hA'
    have e : b = b' := by simpa using congrArg (fun o => (o.map Addr.block).getD 0) hA'
    subst e
    cases hg : get 0 with
    | nil => exact h0 hl hg
    | cons v r =>
      have := hc 0 hl 0 v (by simp [hg])
      simp only [Array.size_setIfInBounds] at hlt
      simp [World.cell?, hlt] at this

mutual
/-- letter i of g is the slice s now; false: x speaks of s -/
def SV.rdX (g i s : Nat) : SV → SV
  | .ltr g' i' => bif Nat.beq g' g && Nat.beq i' i then .sl s else .ltr g' i'
  | .agg xs => .agg (SV.rdXs g i s xs)
  | .tup xs => .tup (SV.rdXs g i s xs)
  | .fn f cap => .fn f (SV.rdXs g i s cap)
  | .gd d want W x => .gd d want W (SV.rdX g i s x)
  | .v x => .v x
  | .own g off => .own g off
  | .sl s => .sl s
  | .at s i off => .at s i off
  | .gr k => .gr k
  | .row g off len cap => .row g off len cap
  | .sub s' a b => .sub s' a b
def SV.rdXs (g i s : Nat) : List SV → List SV
  | [] => []
  | x :: xs => x.rdX g i s :: SV.rdXs g i s xs
end
mutual
def SV.noS (s : Nat) : SV → Bool
  | .sl s' => !Nat.beq s' s
  | .sub s' _ _ => !Nat.beq s' s
  | .at s' _ _ => !Nat.beq s' s
  | .agg xs => SV.noSs s xs
  | .tup xs => SV.noSs s xs
  | .fn _ cap => SV.noSs s cap
  | .gd _ _ _ x => x.noS s
  | _ => true
def SV.noSs (s : Nat) : List SV → Bool
  | [] => true
  | x :: xs => x.noS s && SV.noSs s xs
end
def Env.updS (E : Env) (s : Nat) (r : RS) : Env := { E with sl := fun k => if k = s then r else E.sl k }
theorem Env.updS_same (E : Env) (s : Nat) (r : RS) : (E.updS s r).sl s = r := by simp [Env.updS]
theorem Env.updS_ne (E : Env) {s k : Nat} (r : RS) (h : k ≠ s) : (E.updS s r).sl k = E.sl k := by simp [Env.updS, h]
mutual
theorem SV.val_rdX (E : Env) (g i s : Nat) (r : RS) (hx : E.x g i = .slice r.A r.len r.cap) : ∀ x : SV, x.noS s = true → (x.rdX g i s).val (E.updS s r) = x.val E
  | .ltr g' i', _ => by
    cases h : (Nat.beq g' g && Nat.beq i' i) with
    | true =>
      have h2 := h
      simp only [Bool.and_eq_true, Nat.beq_eq] at h2
      obtain ⟨rfl, rfl⟩ := h2
      simp only [SV.rdX, h, cond_true, SV.val, Env.updS_same, hx]
    | false => simp [SV.rdX, h, SV.val, Env.updS]
  | .sl s', h => by
    simp only [SV.noS, Bool.not_eq_true'] at h
    have : s' ≠ s := fun e => by subst e; simp at h
    simp [SV.rdX, SV.val, Env.updS_ne E r this]
  | .at s' _ _, h => by
    simp only [SV.noS, Bool.not_eq_true'] at h
    have : s' ≠ s := fun e => by subst e; simp at h
    simp [SV.rdX, SV.val, Env.updS_ne E r this]
  | .agg xs, h => by simp only [SV.rdX, SV.val, SV.vals_rdX E g i s r hx xs h]
  | .tup xs, h => by simp only [SV.rdX, SV.val, SV.vals_rdX E g i s r hx xs h]
  | .fn f cap, h => by simp only [SV.rdX, SV.val, SV.vals_rdX E g i s r hx cap h]
  | .gd d want W x, h => by simp only [SV.rdX, SV.val, SV.val_rdX E g i s r hx x h]
  | .v x, _ => by simp [SV.rdX, SV.val]
  | .own g off, _ => by simp [SV.rdX, SV.val, Env.updS]
  | .gr k, _ => by simp [SV.rdX, SV.val, Env.updS]
  | .row g off len cap, _ => by simp [SV.rdX, SV.val, Env.updS]
  | .sub s' _ _, h => by
    simp only [SV.noS, Bool.not_eq_true'] at h
    have : s' ≠ s := fun e => by subst e; simp at h
    simp [SV.rdX, SV.val, Env.updS_ne E r this]
theorem SV.vals_rdX (E : Env) (g i s : Nat) (r : RS) (hx : E.x g i = .slice r.A r.len r.cap) : ∀ xs : List SV, SV.noSs s xs = true → SV.vals (E.updS s r) (SV.rdXs g i s xs) = SV.vals E xs
  | [], _ => by simp [SV.rdXs, SV.vals]
  | x :: xs, h => by
    simp only [SV.noSs, Bool.and_eq_true] at h
    simp only [SV.rdXs, SV.vals, SV.val_rdX E g i s r hx x h.1, SV.vals_rdX E g i s r hx xs h.2]
end
def rdXS (g i s : Nat) : List (Nat × SV) → List (Nat × SV)
  | [] => []
  | (t, x) :: r => (t, x.rdX g i s) :: rdXS g i s r
def BE.rdX (g i s : Nat) : BE → BE
  | .blk t cs => .blk t (SV.rdXs g i s cs)
  | .held Φ => .held Φ
def rdXB (g i s : Nat) : List (Nat × BE) → List (Nat × BE)
  | [] => []
  | (k, y) :: r => (k, y.rdX g i s) :: rdXB g i s r
def noSS (s : Nat) : List (Nat × SV) → Bool
  | [] => true
  | (_, x) :: r => x.noS s && noSS s r
def noSB (s : Nat) : List (Nat × BE) → Bool
  | [] => true
  | (_, .blk _ cs) :: r => SV.noSs s cs && noSB s r
  | (_, .held _) :: r => noSB s r
theorem look_rdXS (g i s : Nat) : ∀ (l : List (Nat × SV)) (t : Nat), look (rdXS g i s l) t = (look l t).map (SV.rdX g i s)
  | [], t => rfl
  | (j, x) :: r, t => by
    by_cases h : j = t
    · subst h; simp [rdXS, look_same]
    · simp only [rdXS]; rw [look_ne h, look_ne h]; exact look_rdXS g i s r t
theorem look_rdXB (g i s : Nat) : ∀ (l : List (Nat × BE)) (t : Nat), look (rdXB g i s l) t = (look l t).map (BE.rdX g i s)
  | [], t => rfl
  | (j, x) :: r, t => by
    by_cases h : j = t
    · subst h; simp [rdXB, look_same]
    · simp only [rdXB]; rw [look_ne h, look_ne h]; exact look_rdXB g i s r t
theorem BE.rdX_blk {g i s : Nat} {o : Option BE} {t : TypeId} {cs : List SV} (h : o.map (BE.rdX g i s) = some (.blk t cs)) : ∃ c', o = some (.blk t c') ∧ cs = SV.rdXs g i s c' := by
  cases o with
  | none => simp at h
  | some y =>
    cases y with
    | blk t' c' => simp only [Option.map_some, BE.rdX, Option.some.injEq, BE.blk.injEq] at h; obtain ⟨rfl, rfl⟩ := h; exact ⟨c', rfl, rfl⟩
    | held Φ => simp [BE.rdX] at h
theorem BE.rdX_held {g i s : Nat} {o : Option BE} {Φ : (Nat → Value) → World → Prop} (h : o.map (BE.rdX g i s) = some (.held Φ)) : o = some (.held Φ) := by
  cases o with
  | none => simp at h
  | some y =>
    cases y with
    | blk t' c' => simp [BE.rdX] at h
    | held Φ' => simp only [Option.map_some, BE.rdX, Option.some.injEq, BE.held.injEq] at h; subst h; rfl
theorem noSS_ok {s : Nat} : ∀ {l : List (Nat × SV)}, noSS s l = true → ∀ t x, look l t = some x → x.noS s = true
  | [], _, t, x, h => by simp [look] at h
  | (k, y) :: r, hf, t, x, h => by
    simp only [noSS, Bool.and_eq_true] at hf
    rcases look_cases h with ⟨_, rfl⟩ | ⟨_, h2⟩
    · exact hf.1
    · exact noSS_ok hf.2 t x h2
theorem noSB_ok {s : Nat} : ∀ {l : List (Nat × BE)}, noSB s l = true → ∀ g t cs, look l g = some (.blk t cs) → SV.noSs s cs = true
  | [], _, g, t, cs, h => by simp [look] at h
  | (k, .held Φ) :: r, hf, g, t, cs, h => by
    rcases look_cases h with ⟨_, e⟩ | ⟨_, h2⟩
    · cases e
    · exact noSB_ok (l := r) hf g t cs h2
  | (k, .blk t' c') :: r, hf, g, t, cs, h => by
    simp only [noSB, Bool.and_eq_true] at hf
    rcases look_cases h with ⟨_, e⟩ | ⟨_, h2⟩
    · simp only [BE.blk.injEq] at e
      obtain ⟨_, rfl⟩ := e
      exact hf.1
    · exact noSB_ok hf.2 g t cs h2
/-- a slice that was returned is read -/
def SState.read (st : SState) (g i s : Nat) (q : Q) : SState := ⟨rdXS g i s st.slots, { st.m with blks := rdXB g i s st.m.blks, rds := (s, q) :: st.m.rds }⟩
theorem St.read (g i s : Nat) (q : Q) (st' : SState) {Φ : (Nat → Value) → World → Prop} (hg : look st.m.blks g = some (.held Φ)) (hΦ : ∀ v w, Φ v w → SliceIs i q v w) (h0 : 0 < q.len → q.get 0 ≠ []) (hn : (noSS s st.slots && noSB s st.m.blks && Nat.ble 1000 s) = true) (hst : st.read g i s q = st') (S : St X st E a w) : ∃ E', St X st' E' a w := by
  subst hst
  simp only [Bool.and_eq_true] at hn
  obtain ⟨hn, hs⟩ := hn
  have hs := Nat.le_of_ble_eq_true hs
  have hH := S.sep.held g Φ hg
  obtain ⟨A, cap, hv, hcap, hsl⟩ := hΦ _ _ hH.out
  have hR : InR (Apart X.w0.heap.size X.R (look st.m.blks) st.m.grs E) A q.len := hH.row (fun w' hw' => by
    obtain ⟨A', cap', hv', _, hsl'⟩ := hΦ _ _ hw'
    rw [hv] at hv'
    have e : A = A' := by injection hv'
    rw [e]
    exact hsl') h0
  refine ⟨E.updS s ⟨A, q.len, cap, q.n⟩, ?_⟩
  unfold St
  simp only [SState.read]
  rw [show look (rdXS g i s st.slots) = fun t => (look st.slots t).map (SV.rdX g i s) from funext (look_rdXS _ _ _ _), show look (rdXB g i s st.m.blks) = fun g' => (look st.m.blks g').map (BE.rdX g i s) from funext (look_rdXB _ _ _ _)]
  have hB : ∀ {k t cs}, (look st.m.blks k).map (BE.rdX g i s) = some (.blk t cs) → ∃ c', look st.m.blks k = some (.blk t c') ∧ cs = SV.rdXs g i s c' := fun hx => BE.rdX_blk hx
  have hap : ∀ b, Apart X.w0.heap.size X.R (look st.m.blks) st.m.grs E b → Apart X.w0.heap.size X.R (fun g' => (look st.m.blks g').map (BE.rdX g i s)) st.m.grs (E.updS s ⟨A, q.len, cap, q.n⟩) b := fun b h1 => ⟨fun ho => h1.1 (by
    rcases ho with ⟨k, t, cs, hx, e⟩ | hk
    · obtain ⟨c', hx', _⟩ := hB hx
      exact .inl ⟨k, t, c', hx', e⟩
    · exact .inr hk), h1.2⟩
  refine ⟨fun t sv ht => ?_, S.size, S.defers, S.kept, ⟨fun k t cs hx => ?_, fun k q' hq => ?_, S.mem.gr, S.mem.one⟩,
    ⟨fun k t cs hx => ?_, fun k k' t t' c c' hx hy e => ?_, S.sep.ginj, fun k j t cs y hx hy => ?_, fun k q' b off hq hl hA => ?_, fun k Ψ hx => (S.sep.held k Ψ (BE.rdX_held hx)).mono fun b _ => hap b⟩, S.pin.1, fun k hk => (Env.updS_ne E _ (by omega)).trans (S.pin.2.1 k hk), S.pin.2.2⟩
  · cases hsf : look st.slots t with
    | none => simp [hsf] at ht
    | some x =>
      simp only [hsf, Option.map_some, Option.some.injEq] at ht
      subst ht
      rw [SV.val_rdX E g i s _ hv x (noSS_ok hn.1 t x hsf)]
      exact S.slot t x hsf
  · obtain ⟨c', hx', rfl⟩ := hB hx
    rw [SV.vals_rdX E g i s _ hv c' (noSB_ok hn.2 k t c' hx')]
    exact S.mem.blk k t c' hx'
  · rcases look_cases hq with ⟨rfl, rfl⟩ | ⟨hne, h2⟩
    · rw [Env.updS_same]
      exact hsl.rd hcap
    · rw [Env.updS_ne E _ (fun e => hne e.symm)]
      exact S.mem.rd k q' h2
  · obtain ⟨c', hx', _⟩ := hB hx
    exact S.sep.base k t c' hx'
  · obtain ⟨c1, hx', _⟩ := hB hx
    obtain ⟨c2, hy', _⟩ := hB hy
    exact S.sep.inj k k' _ _ _ _ hx' hy' e
  · obtain ⟨c', hx', _⟩ := hB hx
    exact S.sep.mix k j _ _ y hx' hy
  · rcases look_cases hq with ⟨rfl, rfl⟩ | ⟨hne, h2⟩
    · rw [Env.updS_same] at hA
      exact hap b (hR b off hl hA)
    · rw [Env.updS_ne E _ (fun e => hne e.symm)] at hA
      exact hap b (S.sep.rd k q' b off h2 hl hA)
end Go.Proofs.Ytlcccomdijdkaaa
