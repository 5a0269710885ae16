/- Slices of slices, as slices that are read; a row that grows by a slice. -/
import Derived.Test.YtlcccomdijdkaaaSyX
import Derived.Laws.AppendOwnNone
import Derived.Laws.Slices
namespace Go.Proofs.Ytlcccomdijdkaaa
open Go.RowKit

variable {P : Program} {X : Ctx} {E : Env} {a : Act} {w : World} {st : SState}
mutual
theorem SV.val_updS (E : Env) (s : Nat) (r : RS) : ∀ x : SV, x.noS s = true → x.val (E.updS s r) = x.val E
  | .sl s', h => by
    simp only [SV.noS, Bool.not_eq_true'] at h
    have : s' ≠ s := fun e => by subst e; simp at h
    simp [SV.val, Env.updS_ne E r this]
  | .at s' _ _, h => by
    simp only [SV.noS, Bool.not_eq_true'] at h
    have : s' ≠ s := fun e => by subst e; simp at h
    simp [SV.val, Env.updS_ne E r this]
  | .agg xs, h => by simp only [SV.val, SV.vals_updS E s r xs h]
  | .tup xs, h => by simp only [SV.val, SV.vals_updS E s r xs h]
  | .fn f cap, h => by simp only [SV.val, SV.vals_updS E s r cap h]
  | .gd d want W x, h => by simp only [SV.val, SV.val_updS E s r x h]
  | .v x, _ => by simp [SV.val]
  | .own g off, _ => by simp [SV.val, Env.updS]
  | .gr k, _ => by simp [SV.val, Env.updS]
  | .ltr g i, _ => by simp [SV.val, Env.updS]
  | .row g off len cap, _ => by simp [SV.val, Env.updS]
  | .sub s' _ _, h => by
    simp only [SV.noS, Bool.not_eq_true'] at h
    have : s' ≠ s := fun e => by subst e; simp at h
    simp [SV.val, Env.updS_ne E r this]
theorem SV.vals_updS (E : Env) (s : Nat) (r : RS) : ∀ xs : List SV, SV.noSs s xs = true → SV.vals (E.updS s r) xs = SV.vals E xs
  | [], _ => by simp [SV.vals]
  | x :: xs, h => by
    simp only [SV.noSs, Bool.and_eq_true] at h
    simp only [SV.vals, SV.val_updS E s r x h.1, SV.vals_updS E s r xs h.2]
end
/-- one slice more that is read -/
theorem St.addrd (S : St X st E a w) (k : Nat) (q : Q) (r : RS) (hr : RdAt w q r) (hR : ∀ b off, 0 < q.len → r.A = some ⟨b, off, none⟩ → Apart X.w0.heap.size X.R (look st.m.blks) st.m.grs E b) (hn : (noSS k st.slots && noSB k st.m.blks && Nat.ble 1000 k) = true) :
    St X ⟨st.slots, { st.m with rds := (k, q) :: st.m.rds }⟩ (E.updS k r) a w := by
  simp only [Bool.and_eq_true] at hn
  obtain ⟨hn, hs⟩ := hn
  have hs := Nat.le_of_ble_eq_true hs
  refine ⟨fun t sv ht => ?_, S.size, S.defers, S.kept, ⟨fun g t cs hx => ?_, fun j q' hq => ?_, S.mem.gr, S.mem.one⟩,
    ⟨S.sep.base, S.sep.inj, S.sep.ginj, S.sep.mix, fun j q' b off hq hl hA => ?_, S.sep.held⟩, S.pin.1, fun j hj => (Env.updS_ne E _ (by omega)).trans (S.pin.2.1 j hj), S.pin.2.2⟩
  · rw [SV.val_updS E k r sv (noSS_ok hn.1 t sv ht)]
    exact S.slot t sv ht
  · rw [SV.vals_updS E k r cs (noSB_ok hn.2 g t cs hx)]
    exact S.mem.blk g t cs hx
  · rcases look_cases hq with ⟨rfl, rfl⟩ | ⟨hne, h2⟩
    · rw [Env.updS_same]; exact hr
    · rw [Env.updS_ne E _ (fun e => hne e.symm)]
      exact S.mem.rd j q' h2
  · rcases look_cases hq with ⟨rfl, rfl⟩ | ⟨hne, h2⟩
    · rw [Env.updS_same] at hA
      exact hR b off hl hA
    · rw [Env.updS_ne E _ (fun e => hne e.symm)] at hA
      exact S.sep.rd j q' b off h2 hl hA
/-- a block of the call's own becomes a row that grows -/
theorem St.rowgr (S : St X st E a w) (g k : Nat) {ty : TypeId} {cs : List SV} (hg : look st.m.blks g = some (.blk ty cs)) (q : GQ) (V : Value) (hV : V.ownBlock = some (E.ρ g)) (hG : GrAt w 0 q V) (hk : look st.m.grs k = none) (ks gs : List Nat) (hno : gs.all (fun j => !Nat.beq j g) = true) :
    St X ⟨subSlots k (E.gr k) (pickL ks st.slots), { st.m with blks := subBlks k (E.gr k) (pickL gs st.m.blks), grs := (k, q) :: st.m.grs }⟩ (E.updG k V) a w := by
  have hin : ∀ j y, look (pickL gs st.m.blks) j = some y → look st.m.blks j = some y ∧ j ≠ g := fun j y hj => by
    refine ⟨pickL_sub _ _ _ _ hj, fun e => ?_⟩
    subst e
    have : ∀ (gs : List Nat), gs.all (fun i => !Nat.beq i j) = true → look (pickL gs st.m.blks) j = none := fun gs => by
      induction gs with
      | nil => intro _; rfl
      | cons i is ih =>
        intro h
        simp only [List.all_cons, Bool.and_eq_true, Bool.not_eq_true'] at h
        simp only [pickL]
        have hne : i ≠ j := fun e => by subst e; simp at h
        split
        · rw [look_ne hne]; exact ih h.2
        · exact ih h.2
    rw [this gs hno] at hj
    cases hj
  have hB : ∀ {j t c}, (look (pickL gs st.m.blks) j).map (BE.subG k (E.gr k)) = some (.blk t c) → ∃ c', (look st.m.blks j = some (.blk t c') ∧ j ≠ g) ∧ c = SV.subGs k (E.gr k) c' := fun hx => by
    obtain ⟨c', h1, h2⟩ := BE.subG_blk hx
    exact ⟨c', hin _ _ h1, h2⟩
  have hgk : ∀ j y, look ((k, q) :: st.m.grs) j = some y → (j = k ∧ y = q) ∨ (j ≠ k ∧ look st.m.grs j = some y) := fun j y hj => by
    rcases look_cases hj with ⟨h1, h2⟩ | ⟨h1, h2⟩
    · exact .inl ⟨h1.symm, h2.symm⟩
    · exact .inr ⟨fun e => h1 e.symm, h2⟩
  have ho : ∀ b, OwnB (fun j => (look (pickL gs st.m.blks) j).map (BE.subG k (E.gr k))) ((k, q) :: st.m.grs) (E.updG k V) b → OwnB (look st.m.blks) st.m.grs E b := by
    rintro b (⟨j, t, c, hx, e⟩ | ⟨j, y, hy, e⟩)
    · obtain ⟨c', ⟨h1, _⟩, _⟩ := hB hx
      exact .inl ⟨j, t, c', h1, e⟩
    · rcases hgk j y hy with ⟨rfl, rfl⟩ | ⟨hne, h2⟩
      · rw [Env.updG_same, hV] at e
        exact .inl ⟨g, ty, cs, hg, by simpa using e⟩
      · rw [Env.updG_ne E V hne] at e
        exact .inr ⟨j, y, h2, e⟩
  have hap : ∀ b, Apart X.w0.heap.size X.R (look st.m.blks) st.m.grs E b → Apart X.w0.heap.size X.R (fun j => (look (pickL gs st.m.blks) j).map (BE.subG k (E.gr k))) ((k, q) :: st.m.grs) (E.updG k V) b := fun b hb => ⟨fun h => hb.1 (ho b h), hb.2⟩
  unfold St
  simp only
  rw [show look (subSlots k (E.gr k) (pickL ks st.slots)) = fun t => (look (pickL ks st.slots) t).map (SV.subG k (E.gr k)) from funext (look_subSlots _ _ _), show look (subBlks k (E.gr k) (pickL gs st.m.blks)) = fun j => (look (pickL gs st.m.blks) j).map (BE.subG k (E.gr k)) from funext (look_subBlks _ _ _)]
  refine ⟨fun t sv ht => ?_, S.size, S.defers, S.kept, ⟨fun j t c hx => ?_, S.mem.rd, fun j y hy => ?_, S.mem.one⟩,
    ⟨fun j t c hx => ?_, fun j j' t t' c c' hx hy e => ?_, ⟨fun j j' x y b hx hy h1 h2 => ?_, fun j x b hx h1 => ?_⟩, fun j i t c y hx hy => ?_, fun s q' b off hq hl hA => hap b (S.sep.rd s q' b off hq hl hA), fun j Φ hx => (S.sep.held j Φ (hin _ _ (BE.subG_held hx)).1).mono fun b _ => hap b⟩, S.pin⟩
  · cases hsf : look (pickL ks st.slots) t with
    | none => simp [hsf] at ht
    | some x =>
      simp only [hsf, Option.map_some, Option.some.injEq] at ht
      subst ht
      rw [SV.val_subG]
      exact S.slot t x (pickL_sub _ _ _ _ hsf)
  · obtain ⟨c', ⟨h1, _⟩, rfl⟩ := hB hx
    rw [SV.vals_subG]
    exact S.mem.blk j t c' h1
  · rcases hgk j y hy with ⟨rfl, rfl⟩ | ⟨hne, h2⟩
    · rw [Env.updG_same]; exact hG
    · rw [Env.updG_ne E V hne]; exact S.mem.gr j y h2
  · obtain ⟨c', ⟨h1, _⟩, _⟩ := hB hx
    exact S.sep.base j t c' h1
  · obtain ⟨c1, ⟨h1, _⟩, _⟩ := hB hx
    obtain ⟨c2, ⟨h2, _⟩, _⟩ := hB hy
    exact S.sep.inj j j' _ _ _ _ h1 h2 e
  · rcases hgk j x hx with ⟨rfl, rfl⟩ | ⟨n1, x1⟩ <;> rcases hgk j' y hy with ⟨rfl, rfl⟩ | ⟨n2, x2⟩
    · rfl
    · rw [Env.updG_same, hV] at h1
      rw [Env.updG_ne E V n2] at h2
      simp only [Option.some.injEq] at h1
      subst h1
      exact absurd h2 (S.sep.mix g j' ty cs y hg x2)
    · rw [Env.updG_same, hV] at h2
      rw [Env.updG_ne E V n1] at h1
      simp only [Option.some.injEq] at h2
      subst h2
      exact absurd h1 (S.sep.mix g j ty cs x hg x1)
    · rw [Env.updG_ne E V n1] at h1
      rw [Env.updG_ne E V n2] at h2
      exact S.sep.ginj.1 j j' x y b x1 x2 h1 h2
  · rcases hgk j x hx with ⟨rfl, rfl⟩ | ⟨n1, x1⟩
    · rw [Env.updG_same, hV] at h1
      simp only [Option.some.injEq] at h1
      subst h1
      exact S.sep.base g ty cs hg
    · rw [Env.updG_ne E V n1] at h1
      exact S.sep.ginj.2 j x b x1 h1
  · obtain ⟨c', ⟨h1, hne⟩, _⟩ := hB hx
    rcases hgk i y hy with ⟨rfl, rfl⟩ | ⟨n1, x1⟩
    · rw [Env.updG_same, hV]
      intro e
      simp only [Option.some.injEq] at e
      exact hne (S.sep.inj j g _ _ _ _ h1 hg e.symm)
    · rw [Env.updG_ne E V n1]
      exact S.sep.mix j i t c' y h1 x1
/-- a literal row of the call's own, as a slice that is read -/
theorem St.rowrd (S : St X st E a w) (hC : X.C = noC) (g k : Nat) {ty : TypeId} {cs : List SV} (hg : look st.m.blks g = some (.blk ty cs)) (ks gs : List Nat) (hno : gs.all (fun j => !Nat.beq j g) = true) (q : Q) (len cap : Nat) (h1 : q.len = len) (h2 : len ≤ cap) (hc : ∀ i, i < q.len → ∀ j v, (q.get i)[j]? = some v → (SV.vals E cs)[i * q.n + j]? = some v)
    (hn : (noSS k (pickL ks st.slots) && noSB k (pickL gs st.m.blks) && Nat.ble 1000 k) = true) : St X ⟨pickL ks st.slots, { st.m with blks := pickL gs st.m.blks, rds := (k, q) :: st.m.rds }⟩ (E.updS k ⟨some ⟨E.ρ g, 0, none⟩, len, cap, q.n⟩) a w := by
  have S1 := S.pick ks gs _ rfl
  have hblk := S.mem.blk g ty cs hg
  refine S1.addrd k q ⟨some ⟨E.ρ g, 0, none⟩, len, cap, q.n⟩ ⟨h1.symm, rfl, by dsimp only; omega, fun hlt => ⟨E.ρ g, 0, rfl, hblk.lt, fun i hi j v hv => ?_⟩⟩ (fun b off hlt hA => ?_) hn
  · rw [hblk.cell, Nat.zero_add]
    simpa using hc i hi j v hv
  · simp only [Option.some.injEq, Addr.mk.injEq] at hA
    obtain ⟨rfl, _⟩ := hA
    refine ⟨fun ho => ?_, ?_⟩
    · rcases ho with ⟨j, t, c, hx, e⟩ | ⟨j, y, hy, e⟩
      · have hj : look st.m.blks j = some (.blk t c) := pickL_sub _ _ _ _ hx
        have : j = g := S.sep.inj j g _ _ _ _ hj hg e
        subst this
        have hnone : ∀ (gs : List Nat), gs.all (fun i => !Nat.beq i j) = true → look (pickL gs st.m.blks) j = none := fun gs => by
          induction gs with
          | nil => intro _; rfl
          | cons i is ih =>
            intro h
            simp only [List.all_cons, Bool.and_eq_true, Bool.not_eq_true'] at h
            simp only [pickL]
            have hne : i ≠ j := fun e => by subst e; simp at h
            split
            · rw [look_ne hne]; exact ih h.2
            · exact ih h.2
        have hx' : look (pickL gs st.m.blks) j = some (.blk t c) := hx
        rw [hnone gs hno] at hx'
        cases hx'
      · exact S.sep.mix g j ty cs y hg hy e
    · rcases S.sep.base g ty cs hg with h | h
      · exact .inl h
      · rw [hC] at h; exact h.elim
/-- a literal row, as one that grows -/
theorem St.litgr (S : St X st E a w) {g : Nat} {ty : TypeId} {cs : List SV} (hg : look st.m.blks g = some (.blk ty cs)) (n len : Nat) (xs : List Value) (hcs : cs.length = len * n) (hm : len ≤ 4611686018427387904) (hx : SV.vals E cs = xs) : GrAt w 0 ⟨ty, n, len, xs⟩ (.slice (some ⟨E.ρ g, 0, none⟩) len len) := by
  have hb := S.mem.blk g ty cs hg
  have hl : (SV.vals E cs).length = len * n := by rw [vals_length, hcs]
  subst hx
  exact ⟨hl, .inr ⟨E.ρ g, len, (SV.vals E cs).toArray, rfl, Nat.zero_le _, hb, Nat.le_refl _, by simp only [maxLen]; omega, by simp [hl], by simp [List.take_of_length_le, hl]⟩⟩
theorem sub_getD {α : Type} [Inhabited α] (M : List α) (a n i : Nat) (h : i < ((M.drop a).take n).length) : ((M.drop a).take n).getD i default = M.getD (a + i) default := by
  have h2 : i < n := by
    simp only [List.length_take] at h
    omega
  simp only [List.getD_eq_getElem?_getD, List.getElem?_take, h2, if_true, List.getElem?_drop]
theorem sub_len {α : Type} (M : List α) (a b : Nat) (h : b ≤ M.length) : ((M.drop a).take (b - a)).length = b - a := by
  simp only [List.length_take, List.length_drop]
  omega
/-- a part of a slice that is read, read -/
theorem RdAt.sub {q q' : Q} {r : RS} (h : RdAt w q r) (a b : Nat) (hab : a ≤ b) (hb : b ≤ q.len) (e1 : q'.n = q.n) (e2 : q'.len = b - a) (e3 : ∀ i, i < q'.len → q'.get i = q.get (a + i)) :
    RdAt w q' ⟨if r.cap = a then r.A else r.A.map (·.add (a * r.n)), b - a, r.cap - a, r.n⟩ := by
  obtain ⟨r1, r2, r3, r4⟩ := h
  refine ⟨e2.symm, r2.trans e1.symm, by dsimp only; omega, fun hlt => ?_⟩
  obtain ⟨bl, off, hA, hbl, hc⟩ := r4 (by omega)
  refine ⟨bl, off + a * q.n, ?_, hbl, fun i hi j v hv => ?_⟩
  · dsimp only
    rw [if_neg (by omega), hA, r2]
    simp [add_plain']
  · rw [e3 i hi] at hv
    have := hc (a + i) (by omega) j v hv
    rw [e1, show off + a * q.n + (i * q.n + j) = off + ((a + i) * q.n + j) by rw [Nat.add_mul]; omega]
    exact this
theorem sub_blk {q : Q} {r : RS} (h : RdAt w q r) {a b bl off : Nat} (hlt : a < b) (hb : b ≤ q.len) (hA : (if r.cap = a then r.A else r.A.map (·.add (a * r.n))) = some ⟨bl, off, none⟩) : ∃ off', r.A = some ⟨bl, off', none⟩ := by
  obtain ⟨r1, r2, r3, r4⟩ := h
  obtain ⟨b', off', hA', _⟩ := r4 (by omega)
  rw [if_neg (by omega), hA'] at hA
  have e : b' = bl := by simpa [add_plain'] using congrArg (fun o => (o.map Addr.block).getD 0) hA
  exact ⟨off', e ▸ hA'⟩
/-- a part of a slice has a number of its own -/
theorem St.subrd (S : St X st E a w) (s k na nb : Nat) (q q' : Q) (hq : look st.m.rds s = some q) (hab : na ≤ nb) (hb : nb ≤ q.len) (e1 : q'.n = q.n) (e2 : q'.len = nb - na) (e3 : ∀ i, i < q'.len → q'.get i = q.get (na + i)) (hn : (noSS k st.slots && noSB k st.m.blks && Nat.ble 1000 k) = true) :
    St X ⟨st.slots, { st.m with rds := (k, q') :: st.m.rds }⟩ (E.updS k ⟨if (E.sl s).cap = na then (E.sl s).A else (E.sl s).A.map (·.add (na * (E.sl s).n)), nb - na, (E.sl s).cap - na, (E.sl s).n⟩) a w :=
  S.addrd k q' _ ((S.mem.rd s q hq).sub na nb hab hb e1 e2 e3) (fun b off hlt hA => by
    obtain ⟨off', hA'⟩ := sub_blk (S.mem.rd s q hq) (show na < nb by omega) hb hA
    exact S.sep.rd s q b off' hq (by omega) hA') hn
/-- a part of a slice, handed over -/
theorem Mem.subM {B : Nat} {R : Nat → Prop} {m : MState} {s : Nat} {q : Q} (h : Mem B R m E w) (hq : look m.rds s = some q) (na nb len : Nat) (get : Nat → List Value) (hab : na ≤ nb) (hb : nb ≤ q.len) (e2 : len = nb - na) (e3 : ∀ i, i < len → get i = q.get (na + i)) :
    ∃ A cap, subV (E.sl s) na nb = .slice A len cap ∧ len ≤ cap ∧ SlAt w A len q.n get ∧ InR R A len := by
  have h1 := (h.rd s q hq).sub (q' := ⟨len, q.n, get⟩) na nb hab hb rfl e2 e3
  refine ⟨_, _, by unfold subV; rw [← e2], h1.2.2.1, h1.2.2.2, fun b off hl hA => ?_⟩
  obtain ⟨off', hA'⟩ := sub_blk (h.rd s q hq) (show na < nb by omega) hb hA
  exact h.rdR s q b off' hq (by omega) hA'
/-- the cells of a list, one after the other, found by their place -/
theorem flat_find {α : Type} [Inhabited α] (f : α → List Value) (n : Nat) (hf : ∀ x, (f x).length = n) : ∀ (l : List α) (j : Nat) (v : Value), (l.flatMap f)[j]? = some v → ∃ i r, i < l.length ∧ j = i * n + r ∧ (f (l.getD i default))[r]? = some v
  | [], j, v, h => by simp at h
  | x :: xs, j, v, h => by
    rw [List.flatMap_cons] at h
    by_cases hj : j < n
    · rw [List.getElem?_append_left (by rw [hf x]; exact hj)] at h
      exact ⟨0, j, by simp, by omega, h⟩
    · rw [List.getElem?_append_right (by rw [hf x]; omega), hf x] at h
      obtain ⟨i, r, h1, h2, h3⟩ := flat_find f n hf xs (j - n) v h
      exact ⟨i + 1, r, by simpa using h1, by rw [Nat.add_mul]; omega, h3⟩
/-- append of a slice of no length, wherever it lies -/
theorem append_nothing {v : Value} {n size c : Nat} {xs : List Value} {t ty e : TypeId} {i : TypeInfo} (hu : P.underlying t = some (.slice e)) (hi : P.info? e = some i) (hG : w.ownsRow 0 e size v n xs) : (Builtin.append_ #[t, t] ty #[v, .slice none 0 c]).run P w = .ok v w := by
  obtain ⟨_, h | ⟨g, cap, cur, h, _, _, hc, _⟩⟩ := hG
  · obtain ⟨h1, h2⟩ := h
    subst h1
    simp [Builtin.append_, run_underlying hu, sizeOf, typeInfo, hi, Builtin.lenOf, Builtin.firstCells]
  · subst h
    simp [Builtin.append_, run_underlying hu, sizeOf, typeInfo, hi, Builtin.lenOf, Builtin.firstCells, hc, storeCells]
/-- append of a slice that is read to a row of the call's own -/
theorem sym_appendS {lay : Lay} (hl : LayOK P lay) {ops l r : List Oper} {o : Oper} {Po : Exit → Act → World → Prop} (hL : l = o :: r) (x y : Operand) (t : TypeId) (ho : o.op = .call { callee := .builtin .append, args := #[x, y], argTypes := #[t, t] }) (hgd : o.guard = none)
    (S : St X st E a w) (k s : Nat) (q : GQ) (qs : Q) (d dt : TyD) (news : List Value) (hx : opnd st.slots x = some (.gr k)) (hq : look st.m.grs k = some q) (hy : opnd st.slots y = some (.sl s)) (hs : look st.m.rds s = some qs)
    (hdt : look lay t = some dt) (hsl : dt.k = .sli q.ty q.n) (hd : look lay q.ty = some d) (hn : d.n = q.n) (hqn : qs.n = q.n) (hpos : 0 < q.n) (hnl : news.length = qs.len * q.n) (hget : ∀ j v, news[j]? = some v → ∃ i r, i < qs.len ∧ j = i * q.n + r ∧ (qs.get i)[r]? = some v) (hone : ∀ v ∈ news, v.oneCell' = true) (hdn : ∀ e, o.dst = some e → e < X.n)
    (q' : GQ) (e1 : q'.ty = q.ty) (e2 : q'.n = q.n) (e3 : q'.len = q.len + qs.len) (e4 : q'.xs = q.xs ++ news) (hb1 : q.len + qs.len ≤ 4611686018427387904) (hb2 : (q.len + qs.len) * d.by' ≤ 140737488355328)
    (kk : ∀ v0 E' a' w', St X { st.setgr k v0 q' with slots := match o.dst with | some d => (d, .gr k) :: (st.setgr k v0 q').slots | none => (st.setgr k v0 q').slots } E' a' w' → wpList P ops.toArray Po r a' w') : wpList P ops.toArray Po l a w := by
  subst hL
  have ev : ∀ z sv, opnd st.slots z = some sv → a.eval z = sv.val E := fun z sv hz => by
    cases z with
    | tmp t => simp only [opnd] at hz; have := S.slot t sv hz; simp [Act.eval, this]
    | const v => simp [opnd] at hz; subst hz; rfl
    | global g => simp [opnd] at hz; subst hz; rfl
    | func f => simp [opnd] at hz; subst hz; rfl
  obtain ⟨u, hu, hmm⟩ := (hl t dt hdt).under
  rw [hsl] at hmm
  obtain ⟨rfl, hkn, hes⟩ := hmm
  obtain ⟨_, i, hi, his, z, hz, hzc⟩ := (hl q.ty d hd).size
  have hby : i.bytes = d.by' := by have := (hl q.ty d hd).bytes; simpa [Program.bytesOf, hi] using this
  have hzs : z.cells.size = q.n := by
    have := (hl q.ty d hd).zlen
    rw [← hn, ← this, ← hzc]
    simp
  have hG := S.mem.gr k q hq
  obtain ⟨r1, r2, r3, r4⟩ := S.mem.rd s qs hs
  have hyv : a.eval y = .slice (E.sl s).A qs.len (E.sl s).cap := by
    rw [ev y _ hy]
    simp only [SV.val, r1]
  -- what comes of it
  have fin : ∀ v' w', GrAt w' 0 q' v' → w.grownBy w' (E.gr k).ownBlock → (v'.ownBlock = (E.gr k).ownBlock ∨ v'.ownBlock = some w.heap.size) → wpList P ops.toArray Po r (a.put o.dst v') w' := fun v' w' hown hgrow hat => by
    have S' := S.setgr k q' (row := (E.gr k).ownBlock) hgrow (fun b hb => ⟨q, hq, hb⟩) hown (fun b hb => by
      rcases hat with h1 | h1
      · rw [h1] at hb; exact .inl hb
      · rw [h1] at hb; simp only [Option.some.injEq] at hb; omega)
    have S2 := StF.putD S' hdn (.gr k)
    simp only [SV.val, Env.updG_same] at S2
    refine kk (E.gr k) (E.updG k v') (a.put o.dst v') w' ?_
    unfold St
    cases hdst : o.dst with
    | none => rw [hdst] at S2; exact S2
    | some e =>
      rw [hdst] at S2
      simp only
      rw [look_upd]
      exact S2
  have hg0 : w.grownBy w (E.gr k).ownBlock := ⟨rfl, rfl, rfl, Nat.le_refl _, fun _ _ _ => rfl⟩
  cases hA : (E.sl s).A with
  | none =>
    have h0 : qs.len = 0 := by
      by_cases h : 0 < qs.len
      · obtain ⟨b, off, h1, _⟩ := r4 h
        rw [hA] at h1; cases h1
      · omega
    have hnil : news = [] := by
      have := hnl
      rw [h0, Nat.zero_mul] at this
      exact List.eq_nil_of_length_eq_zero this
    have hown : GrAt w 0 q' (E.gr k) := by
      unfold GrAt
      rw [e1, e2, e3, e4, hnil, h0, List.append_nil, Nat.add_zero]
      exact hG
    rw [hA, h0] at hyv
    refine wpList_plain hgd fun K hK => ?_
    unfold Oper.wp
    have hrun := append_nothing (P := P) (w := w) (ty := o.type) (c := (E.sl s).cap) hu hi hG
    simp only [execOp, ho, resolve, invoke, builtin, Sem.run_bind, Sem.run_pure, Result.andThen_ok, List.map_toArray, List.map_cons, List.map_nil, ev x _ hx, hyv, hrun, SV.val]
    exact hK _ _ (fin _ _ hown hg0 (.inl rfl))
  | some ad =>
    rw [hA] at hyv
    have hcell : ∀ j u, news[j]? = some u → w.cell? (ad.add j) = some u := fun j v hv => by
      obtain ⟨i, r, h1, h2, h3⟩ := hget j v hv
      obtain ⟨b, off, h4, _, h5⟩ := r4 (by omega)
      rw [hA] at h4
      simp only [Option.some.injEq] at h4
      subst h4
      rw [add_plain', h2]
      have := h5 i h1 r v h3
      rw [hqn] at this
      exact this
    refine wpList_append_own_at w hgd x y t ho 0 q.ty i z q.n d.by' hu hi hz (his.trans hn) hby hzs hpos (E.gr k) q.len q.xs (ev x _ hx) hG ad qs.len (E.sl s).cap news hyv hnl hcell hone (by simp only [maxLen]; omega) hb2 (Nat.zero_le _) ?_
    intro v' w' hown hgrow _ hat
    exact fin v' w' (by unfold GrAt; rw [e1, e2, e3, e4]; exact hown) hgrow hat
end Go.Proofs.Ytlcccomdijdkaaa
