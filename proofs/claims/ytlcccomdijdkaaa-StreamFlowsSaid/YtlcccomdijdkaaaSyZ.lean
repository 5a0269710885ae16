/- An append under a guard; what a call has returned, as a row that grows; slices that keep their numbers. -/
import Derived.Test.YtlcccomdijdkaaaSyY
namespace Go.Proofs.Ytlcccomdijdkaaa
open Go.RowKit

variable {P : Program} {X : Ctx} {E : Env} {a : Act} {w : World} {st : SState}
/-- a copy is a slice that was returned -/
theorem CopyOf.is {q : Q} {v : Nat → Value} {w : World} (h : CopyOf q v w) : SliceIs 0 q v w := by
  obtain ⟨A, cap, h1, h2⟩ := h
  exact ⟨A, cap, h1, h2.2.2.1, h2.2.2.2⟩
theorem wanted_ok (S : St X st E a w) {ops : List Oper} {o : Oper} {b : Bool} (hb : wantB ops st.slots o = some b) : Region.wanted o (yielded ops.toArray a.tmps) = b := by
  unfold wantB at hb
  unfold Region.wanted
  cases hg : o.guard with
  | none => rw [hg] at hb; simpa using hb
  | some jw =>
    obtain ⟨j, want⟩ := jw
    rw [hg] at hb
    simp only at hb
    cases hj : ops[j]? with
    | none => rw [hj] at hb; simp at hb
    | some oj =>
      rw [hj] at hb
      simp only at hb
      cases hdj : oj.dst with
      | none => rw [hdj] at hb; simp at hb
      | some d =>
        rw [hdj] at hb
        simp only at hb
        have hj' : ops.toArray[j]? = some oj := by simpa using hj
        split at hb
        · rename_i bb hbb
          have hs := S.slot d _ hbb
          simp only [SV.val] at hs
          simp only [Option.some.injEq] at hb
          subst hb
          simp only [yielded, hj', Option.bind_some, hdj, hs]
          cases bb <;> cases want <;> rfl
        · cases hb
theorem wpList_unguard {ops : Array Oper} {o : Oper} {rest : List Oper} {Q : Exit → Act → World → Prop} (hw : Region.wanted o (yielded ops a.tmps) = true) (h : wpList P ops Q ({ o with guard := none } :: rest) a w) : wpList P ops Q (o :: rest) a w := by
  unfold wpList at h ⊢
  rw [if_pos hw]
  have h1 : Region.wanted { o with guard := none } (yielded ops a.tmps) = true := by simp [Region.wanted]
  rw [if_pos h1] at h
  exact h
theorem sym_unguard {ops l r : List Oper} {o : Oper} {Q : Exit → Act → World → Prop} (S : St X st E a w) (hL : l = o :: r) (hw : wantB ops st.slots o = some true) (h : wpList P ops.toArray Q ({ o with guard := none } :: r) a w) : wpList P ops.toArray Q l a w := by
  subst hL
  exact wpList_unguard (wanted_ok S hw) h
theorem St.own_new (S : St X st E a w) (hC : X.C = noC) : ∀ k, st.own E k → X.w0.heap.size ≤ k := by
  rintro k (⟨g, t, cs, hx, rfl⟩ | ⟨j, q, hq, hb⟩)
  · exact (S.sep.base g t cs hx).resolve_right (fun h => by rw [hC] at h; exact h)
  · exact (S.sep.ginj.2 j q k hq hb).resolve_right (fun h => by rw [hC] at h; exact h)
/-- a slice that is read has one number more, and whatever number -/
theorem St.lowrd (S : St X st E a w) (s k : Nat) {q : Q} (hq : look st.m.rds s = some q) (hn : (noSS k st.slots && noSB k st.m.blks) = true) : St { X with sl0 := (E.updS k (E.sl s)).sl } ⟨st.slots, { st.m with rds := (k, q) :: st.m.rds }⟩ (E.updS k (E.sl s)) a w := by
  simp only [Bool.and_eq_true] at hn
  refine ⟨fun t sv ht => ?_, S.size, S.defers, S.kept, ⟨fun g t cs hx => ?_, fun j q' hq' => ?_, S.mem.gr, S.mem.one⟩,
    ⟨S.sep.base, S.sep.inj, S.sep.ginj, S.sep.mix, fun j q' b off hq' hl hA => ?_, S.sep.held⟩, S.pin.1, fun _ _ => rfl, S.pin.2.2⟩
  · rw [SV.val_updS E k _ sv (noSS_ok hn.1 t sv ht)]
    exact S.slot t sv ht
  · rw [SV.vals_updS E k _ cs (noSB_ok hn.2 g t cs hx)]
    exact S.mem.blk g t cs hx
  · rcases look_cases hq' with ⟨rfl, rfl⟩ | ⟨hne, h2⟩
    · rw [Env.updS_same]; exact S.mem.rd s _ hq
    · rw [Env.updS_ne E _ (fun e => hne e.symm)]
      exact S.mem.rd j q' h2
  · rcases look_cases hq' with ⟨rfl, rfl⟩ | ⟨hne, h2⟩
    · rw [Env.updS_same] at hA
      exact S.sep.rd s _ b off hq hl hA
    · rw [Env.updS_ne E _ (fun e => hne e.symm)] at hA
      exact S.sep.rd j q' b off h2 hl hA
def lowL {β : Type} : List (Nat × β) → Bool
  | [] => true
  | (k, _) :: r => Nat.blt k 1000 && lowL r
theorem lowL_ok {β : Type} : ∀ {l : List (Nat × β)}, lowL l = true → ∀ s x, look l s = some x → s < 1000
  | [], _, s, x, h => by simp [look] at h
  | (k, y) :: r, hf, s, x, h => by
    simp only [lowL, Bool.and_eq_true] at hf
    rcases look_cases h with ⟨rfl, _⟩ | ⟨_, h2⟩
    · exact Nat.lt_of_succ_le (Nat.le_of_ble_eq_true hf.1)
    · exact lowL_ok hf.2 s x h2
def allBlk : List (Nat × BE) → Bool
  | [] => true
  | (_, .blk _ _) :: r => allBlk r
  | (_, .held _) :: _ => false
theorem allBlk_ok : ∀ {l : List (Nat × BE)}, allBlk l = true → ∀ g Φ, look l g ≠ some (.held Φ)
  | [], _, g, Φ, h => by simp [look] at h
  | (k, .blk t cs) :: r, hf, g, Φ, h => by
    rcases look_cases h with ⟨_, e⟩ | ⟨_, h2⟩
    · cases e
    · exact allBlk_ok (l := r) hf g Φ h2
  | (k, .held Ψ) :: r, hf, g, Φ, h => by cases hf
/-- such a row, new since N -/
def RowNew (N i : Nat) (q : GQ) : (Nat → Value) → World → Prop := fun v w => GrAt w 0 q (v i) ∧ ∀ b, (v i).ownBlock = some b → N ≤ b
theorem GrAt.held {B i : Nat} {q : GQ} {v : Nat → Value} (h : GrAt w 0 q (v i)) (hB : ∀ b, (v i).ownBlock = some b → B ≤ b) : HeldIn (fun k => B ≤ k) w (RowNew B i q v) :=
  ⟨fun k => (v i).ownBlock = some k, fun k hk => ⟨(World.ownsRow.lt h k hk).2, hB k hk⟩, fun w' hw => ⟨GrAt.move h hw, hB⟩⟩
/-- what a call has returned becomes a row that grows -/
theorem St.takegr (S : St X st E a w) (g i k : Nat) {Φ : (Nat → Value) → World → Prop} (hg : look st.m.blks g = some (.held Φ)) (q : GQ) (hΦ : ∀ v w, Φ v w → RowNew X.w0.heap.size i q v w) (hk : look st.m.grs k = none) (ks gs : List Nat) (hno : allBlk (pickL gs st.m.blks) = true)
    (hrd : ∀ s q b off, look st.m.rds s = some q → 0 < q.len → (E.sl s).A = some ⟨b, off, none⟩ → b < X.w0.heap.size) :
    St X ⟨subSlots k (E.gr k) (pickL ks st.slots), { st.m with blks := subBlks k (E.gr k) (pickL gs st.m.blks), grs := (k, q) :: st.m.grs }⟩ (E.updG k (E.x g i)) a w := by
  obtain ⟨V, hVe⟩ : ∃ V, V = E.x g i := ⟨_, rfl⟩
  rw [← hVe]
  have hH := S.sep.held g Φ hg
  obtain ⟨hG, hN⟩ := hΦ _ _ hH.out
  rw [← hVe] at hG hN
  -- its block is not known otherwise
  have hap0 : ∀ b, V.ownBlock = some b → ¬ OwnB (look st.m.blks) st.m.grs E b := fun b hb => by
    obtain ⟨D, hD, hkD⟩ := hH
    by_cases hDb : D b
    · exact (hD b hDb).2.1
    · exfalso
      have hlt := (World.ownsRow.lt hG b hb).2
      have h1 := (hΦ _ _ (hkD { w with heap := w.heap.setIfInBounds b (.cells #[] 0 (1, 1)) } fun k hkD' => by
        have hne : b ≠ k := fun e => hDb (e ▸ hkD')
        simp [Array.getElem?_setIfInBounds_ne hne])).1
      rw [← hVe] at h1
      rcases h1.2 with ⟨h2, _⟩ | ⟨g', cap, cur, e, _, hb', _⟩
      · rw [h2] at hb; simp [Value.ownBlock] at hb
      · rw [e] at hb
        simp only [Value.ownBlock, Option.some.injEq] at hb
        subst hb
        simp [hlt] at hb'
  have hB : ∀ {j t c}, (look (pickL gs st.m.blks) j).map (BE.subG k (E.gr k)) = some (.blk t c) → ∃ c', look st.m.blks j = some (.blk t c') ∧ c = SV.subGs k (E.gr k) c' := fun hx => by
    obtain ⟨c', h1, h2⟩ := BE.subG_blk hx
    exact ⟨c', pickL_sub _ _ _ _ h1, h2⟩
  have hgk : ∀ j y, look ((k, q) :: st.m.grs) j = some y → (j = k ∧ y = q) ∨ (j ≠ k ∧ look st.m.grs j = some y) := fun j y hj => by
    rcases look_cases hj with ⟨h1, h2⟩ | ⟨h1, h2⟩
    · exact .inl ⟨h1.symm, h2.symm⟩
    · exact .inr ⟨fun e => h1 e.symm, h2⟩
  have ho : ∀ b, OwnB (fun j => (look (pickL gs st.m.blks) j).map (BE.subG k (E.gr k))) ((k, q) :: st.m.grs) (E.updG k V) b → OwnB (look st.m.blks) st.m.grs E b ∨ V.ownBlock = some b := by
    rintro b (⟨j, t, c, hx, e⟩ | ⟨j, y, hy, e⟩)
    · obtain ⟨c', h1, _⟩ := hB hx
      exact .inl (.inl ⟨j, t, c', h1, e⟩)
    · rcases hgk j y hy with ⟨rfl, rfl⟩ | ⟨hne, h2⟩
      · rw [Env.updG_same] at e
        exact .inr e
      · rw [Env.updG_ne E V hne] at e
        exact .inl (.inr ⟨j, y, h2, e⟩)
  unfold St
  simp only
  rw [show look (subSlots k (E.gr k) (pickL ks st.slots)) = fun t => (look (pickL ks st.slots) t).map (SV.subG k (E.gr k)) from funext (look_subSlots _ _ _), show look (subBlks k (E.gr k) (pickL gs st.m.blks)) = fun j => (look (pickL gs st.m.blks) j).map (BE.subG k (E.gr k)) from funext (look_subBlks _ _ _)]
  refine ⟨fun t sv ht => ?_, S.size, S.defers, S.kept, ⟨fun j t c hx => ?_, S.mem.rd, fun j y hy => ?_, S.mem.one⟩,
    ⟨fun j t c hx => ?_, fun j j' t t' c c' hx hy e => ?_, ⟨fun j j' x y b hx hy h1 h2 => ?_, fun j x b hx h1 => ?_⟩, fun j i t c y hx hy => ?_, fun s q' b off hq hl hA => ?_, fun j Φ hx => absurd (BE.subG_held hx) (allBlk_ok hno j Φ)⟩, S.pin⟩
  · cases hsf : look (pickL ks st.slots) t with
    | none => simp [hsf] at ht
    | some x =>
      simp only [hsf, Option.map_some, Option.some.injEq] at ht
      subst ht
      rw [SV.val_subG]
      exact S.slot t x (pickL_sub _ _ _ _ hsf)
  · obtain ⟨c', h1, rfl⟩ := hB hx
    rw [SV.vals_subG]
    exact S.mem.blk j t c' h1
  · rcases hgk j y hy with ⟨rfl, rfl⟩ | ⟨hne, h2⟩
    · rw [Env.updG_same]; exact hG
    · rw [Env.updG_ne E V hne]; exact S.mem.gr j y h2
  · obtain ⟨c', h1, _⟩ := hB hx
    exact S.sep.base j t c' h1
  · obtain ⟨c1, h1, _⟩ := hB hx
    obtain ⟨c2, h2, _⟩ := hB hy
    exact S.sep.inj j j' _ _ _ _ h1 h2 e
  · rcases hgk j x hx with ⟨rfl, rfl⟩ | ⟨n1, x1⟩ <;> rcases hgk j' y hy with ⟨rfl, rfl⟩ | ⟨n2, x2⟩
    · rfl
    · rw [Env.updG_same] at h1
      rw [Env.updG_ne E V n2] at h2
      exact absurd (.inr ⟨j', y, x2, h2⟩) (hap0 b h1)
    · rw [Env.updG_same] at h2
      rw [Env.updG_ne E V n1] at h1
      exact absurd (.inr ⟨j, x, x1, h1⟩) (hap0 b h2)
    · rw [Env.updG_ne E V n1] at h1
      rw [Env.updG_ne E V n2] at h2
      exact S.sep.ginj.1 j j' x y b x1 x2 h1 h2
  · rcases hgk j x hx with ⟨rfl, rfl⟩ | ⟨n1, x1⟩
    · rw [Env.updG_same] at h1
      exact .inl (hN b h1)
    · rw [Env.updG_ne E V n1] at h1
      exact S.sep.ginj.2 j x b x1 h1
  · obtain ⟨c', h1, _⟩ := hB hx
    rcases hgk i y hy with ⟨rfl, rfl⟩ | ⟨n1, x1⟩
    · rw [Env.updG_same]
      intro e
      exact hap0 _ e (.inl ⟨j, t, c', h1, rfl⟩)
    · rw [Env.updG_ne E V n1]
      exact S.sep.mix j i t c' y h1 x1
  · have h1 := S.sep.rd s q' b off hq hl hA
    refine ⟨fun h => ?_, h1.2⟩
    rcases ho b h with h2 | h2
    · exact h1.1 h2
    · have := hrd s q' b off hq hl hA
      have := hN b h2
      omega
end Go.Proofs.Ytlcccomdijdkaaa
