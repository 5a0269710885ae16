/- Slices that grow: append, calls that return them, reading them. -/
import Derived.Test.YtlcccomdijdkaaaSyM
import Derived.Maps.AppendAt
namespace Go.Proofs.Ytlcccomdijdkaaa
open Go.RowKit

variable {P : Program} {X : Ctx} {sf : Nat → Option SV} {bf : BF} {rds : List (Nat × Q)} {grs : List (Nat × GQ)} {E : Env} {a : Act} {w : World} {st : SState}

mutual
/-- the growing slice k, as it was -/
def SV.subG (k : Nat) (v : Value) : SV → SV
  | .gr k' => bif Nat.beq k' k then .v v else .gr k'
  | .agg xs => .agg (SV.subGs k v xs)
  | .tup xs => .tup (SV.subGs k v xs)
  | .fn f cap => .fn f (SV.subGs k v cap)
  | .gd d want W x => .gd d want W (SV.subG k v x)
  | .v x => .v x
  | .own g off => .own g off
  | .sl s => .sl s
  | .at s i off => .at s i off
  | .ltr g i => .ltr g i
  | .row g off len cap => .row g off len cap
  | .sub s a b => .sub s a b
def SV.subGs (k : Nat) (v : Value) : List SV → List SV
  | [] => []
  | x :: xs => x.subG k v :: SV.subGs k v xs
end
def Env.updG (E : Env) (k : Nat) (v : Value) : Env := { E with gr := fun j => if j = k then v else E.gr j }
theorem Env.updG_same (E : Env) (k : Nat) (v : Value) : (E.updG k v).gr k = v := by simp [Env.updG]
theorem Env.updG_ne (E : Env) {k j : Nat} (v : Value) (h : j ≠ k) : (E.updG k v).gr j = E.gr j := by simp [Env.updG, h]
mutual
theorem SV.val_subG (E : Env) (k : Nat) (v : Value) : ∀ x : SV, (x.subG k (E.gr k)).val (E.updG k v) = x.val E
  | .gr k' => by
    cases h : Nat.beq k' k with
    | true => have := Nat.eq_of_beq_eq_true h; subst this; simp [SV.subG, SV.val]
    | false =>
      have : k' ≠ k := fun e => by subst e; simp at h
      simp [SV.subG, h, SV.val, Env.updG_ne E v this]
  | .agg xs => by simp only [SV.subG, SV.val, SV.vals_subG E k v xs]
  | .tup xs => by simp only [SV.subG, SV.val, SV.vals_subG E k v xs]
  | .fn f cap => by simp only [SV.subG, SV.val, SV.vals_subG E k v cap]
  | .gd d want W x => by simp only [SV.subG, SV.val, SV.val_subG E k v x]
  | .v x => by simp [SV.subG, SV.val]
  | .own g off => by simp [SV.subG, SV.val, Env.updG]
  | .sl s => by simp [SV.subG, SV.val, Env.updG]
  | .at s i off => by simp [SV.subG, SV.val, Env.updG]
  | .ltr g i => by simp [SV.subG, SV.val, Env.updG]
  | .row g off len cap => by simp [SV.subG, SV.val, Env.updG]
  | .sub s a b => by simp [SV.subG, SV.val, Env.updG]
theorem SV.vals_subG (E : Env) (k : Nat) (v : Value) : ∀ xs : List SV, SV.vals (E.updG k v) (SV.subGs k (E.gr k) xs) = SV.vals E xs
  | [] => by simp [SV.subGs, SV.vals]
  | x :: xs => by simp only [SV.subGs, SV.vals, SV.val_subG E k v x, SV.vals_subG E k v xs]
end
def subSlots (k : Nat) (v : Value) : List (Nat × SV) → List (Nat × SV)
  | [] => []
  | (t, x) :: r => (t, x.subG k v) :: subSlots k v r
def BE.subG (k : Nat) (v : Value) : BE → BE
  | .blk t cs => .blk t (SV.subGs k v cs)
  | .held Φ => .held Φ
def subBlks (k : Nat) (v : Value) : List (Nat × BE) → List (Nat × BE)
  | [] => []
  | (g, y) :: r => (g, y.subG k v) :: subBlks k v r
theorem BE.subG_blk {k : Nat} {v : Value} {o : Option BE} {t : TypeId} {cs : List SV} (h : o.map (BE.subG k v) = some (.blk t cs)) : ∃ c', o = some (.blk t c') ∧ cs = SV.subGs k v c' := by
  cases o with
  | none => simp at h
  | some y =>
    cases y with
    | blk t' c' => simp only [Option.map_some, BE.subG, Option.some.injEq, BE.blk.injEq] at h; obtain ⟨rfl, rfl⟩ := h; exact ⟨c', rfl, rfl⟩
    | held Φ => simp [BE.subG] at h
theorem BE.subG_held {k : Nat} {v : Value} {o : Option BE} {Φ : (Nat → Value) → World → Prop} (h : o.map (BE.subG k v) = some (.held Φ)) : o = some (.held Φ) := by
  cases o with
  | none => simp at h
  | some y =>
    cases y with
    | blk t' c' => simp [BE.subG] at h
    | held Φ' => simp only [Option.map_some, BE.subG, Option.some.injEq, BE.held.injEq] at h; subst h; rfl
theorem look_subSlots (k : Nat) (v : Value) : ∀ (l : List (Nat × SV)) (t : Nat), look (subSlots k v l) t = (look l t).map (SV.subG k v)
  | [], t => rfl
  | (j, x) :: r, t => by
    by_cases h : j = t
    · subst h; simp [subSlots, look_same]
    · simp only [subSlots]; rw [look_ne h, look_ne h]; exact look_subSlots k v r t
theorem look_subBlks (k : Nat) (v : Value) : ∀ (l : List (Nat × BE)) (t : Nat), look (subBlks k v l) t = (look l t).map (BE.subG k v)
  | [], t => rfl
  | (j, x) :: r, t => by
    by_cases h : j = t
    · subst h; simp [subBlks, look_same]
    · simp only [subBlks]; rw [look_ne h, look_ne h]; exact look_subBlks k v r t

/-- the slice k is another one now: a new one, or the one of before with more behind it -/
theorem StF.setgr (h : StF X sf bf rds grs E a w) (k : Nat) (q' : GQ) {w' : World} {v' : Value} {row : Option Nat} (hg : w.grownBy w' row) (hrow : ∀ b, row = some b → ∃ q, look grs k = some q ∧ (E.gr k).ownBlock = some b)
    (hown : GrAt w' 0 q' v') (hat : ∀ b, v'.ownBlock = some b → row = some b ∨ w.heap.size ≤ b) :
    StF X (fun t => (sf t).map (SV.subG k (E.gr k))) (fun g => (bf g).map (BE.subG k (E.gr k))) rds ((k, q') :: grs) (E.updG k v') a w' := by
  obtain ⟨bf', hbf'⟩ : ∃ bf' : BF, bf' = fun g => (bf g).map (BE.subG k (E.gr k)) := ⟨_, rfl⟩
  rw [← hbf']
  have hB : ∀ {g t cs}, bf' g = some (.blk t cs) → ∃ c', bf g = some (.blk t c') ∧ cs = SV.subGs k (E.gr k) c' := fun {g t cs} hx => by rw [hbf'] at hx; exact BE.subG_blk hx
  have hH : ∀ {g Φ}, bf' g = some (.held Φ) → bf g = some (.held Φ) := fun {g Φ} hx => by rw [hbf'] at hx; exact BE.subG_held hx
  -- what is own now: what was own, or new
  have hnew : ∀ b, OwnB bf' ((k, q') :: grs) (E.updG k v') b → OwnB bf grs E b ∨ w.heap.size ≤ b := by
    rintro b (⟨g, t, cs, hx, rfl⟩ | ⟨j, q, hq, hb⟩)
    · obtain ⟨c', hx', _⟩ := hB hx
      exact .inl (.inl ⟨g, t, c', hx', rfl⟩)
    · rcases look_cases hq with ⟨rfl, rfl⟩ | ⟨hne, h2⟩
      · rw [Env.updG_same] at hb
        rcases hat b hb with h3 | h3
        · obtain ⟨q0, k1, k2⟩ := hrow b h3
          exact .inl (.inr ⟨k, q0, k1, k2⟩)
        · exact .inr h3
      · rw [Env.updG_ne E v' (fun e => hne e.symm)] at hb
        exact .inl (.inr ⟨j, q, h2, hb⟩)
  have hrowB : ∀ b, row = some b → (X.w0.heap.size ≤ b ∨ X.C b) ∧ OwnB bf grs E b := fun b hb => by
    obtain ⟨q0, k1, k2⟩ := hrow b hb
    exact ⟨h.sep.ginj.2 k q0 b k1 k2, .inr ⟨k, q0, k1, k2⟩⟩
  have hkeep : ∀ b, b < w.heap.size → (∀ c, row = some c → c ≠ b) → w'.heap[b]? = w.heap[b]? := fun b hb hn => hg.block b hb (fun e => hn b e.symm rfl)
  have hapr : ∀ b, Apart X.w0.heap.size X.R bf grs E b → ∀ c, row = some c → c ≠ b := fun b hb c hc e => by subst e; exact hb.1 (hrowB c hc).2
  have hap : ∀ b, b < w.heap.size → Apart X.w0.heap.size X.R bf grs E b → Apart X.w0.heap.size X.R bf' ((k, q') :: grs) (E.updG k v') b := fun b hb h1 => ⟨fun ho => by
    rcases hnew b ho with h2 | h2
    · exact h1.1 h2
    · omega, h1.2⟩
  have oldlt : ∀ j q b, look grs j = some q → (E.gr j).ownBlock = some b → b < w.heap.size := fun j q b hj hb => (World.ownsRow.lt (h.mem.gr j q hj) b hb).2
  refine ⟨fun t sv ht => ?_, h.size, h.defers, ⟨hg.os.trans h.kept.os, hg.tape.trans h.kept.tape, hg.output.trans h.kept.output, Nat.le_trans h.kept.size hg.size, fun b hb hC => ?_⟩,
    ⟨fun g t cs hx => ?_, fun s q hq => (h.mem.rd s q hq).move hg.size fun b off hl hA hb => hkeep b hb (hapr b (h.sep.rd s q b off hq hl hA)), fun j q hq => ?_, h.mem.one⟩,
    ⟨fun g t cs hx => ?_, fun g g' t t' c c' hx hy e => ?_, ⟨fun j j' x y b hj hj' hb hb' => ?_, fun j x b hj hb => ?_⟩, fun g j t cs y hx hj => ?_, fun s q b off hq hl hA => hap b (h.rdlt hq hl hA) (h.sep.rd s q b off hq hl hA), fun g Φ hΦ => ?_⟩, h.pin⟩
  · cases hsf : sf t with
    | none => simp [hsf] at ht
    | some x =>
      simp only [hsf, Option.map_some, Option.some.injEq] at ht
      subst ht
      rw [SV.val_subG]
      exact h.slot t x hsf
  · have hb' : b < w.heap.size := Nat.lt_of_lt_of_le hb h.kept.size
    refine (hkeep b hb' (fun c hc e => ?_)).trans (h.kept.block b hb hC)
    subst e
    rcases (hrowB c hc).1 with h1 | h1
    · omega
    · exact hC h1
  · obtain ⟨c', hx', rfl⟩ := hB hx
    have hBl := h.mem.blk g t c' hx'
    show Blk w' (E.ρ g) t _
    rw [SV.vals_subG]
    refine (hkeep _ hBl.lt (fun c hc e => ?_)).trans hBl
    subst e
    obtain ⟨q0, k1, k2⟩ := hrow _ hc
    exact h.sep.mix g k _ _ q0 hx' k1 k2
  · rcases look_cases hq with ⟨rfl, rfl⟩ | ⟨hne, h2⟩
    · rw [Env.updG_same]; exact hown
    · rw [Env.updG_ne E v' (fun e => hne e.symm)]
      refine (h.mem.gr j q h2).move fun b hb => hkeep b (oldlt j q b h2 hb) (fun c hc e' => ?_)
      subst e'
      obtain ⟨q0, k1, k2⟩ := hrow _ hc
      exact hne (h.sep.ginj.1 k j q0 q _ k1 h2 k2 hb)
  · obtain ⟨c', hx', _⟩ := hB hx
    exact h.sep.base g t c' hx'
  · obtain ⟨c1, hx', _⟩ := hB hx
    obtain ⟨c2, hy', _⟩ := hB hy
    exact h.sep.inj g g' _ _ _ _ hx' hy' e
  · rcases look_cases hj with ⟨rfl, rfl⟩ | ⟨hne, h2⟩ <;> rcases look_cases hj' with ⟨h3, h3'⟩ | ⟨hne', h4⟩
    · exact h3
    · rw [Env.updG_same] at hb
      rw [Env.updG_ne E v' (fun e => hne' e.symm)] at hb'
      exfalso
      rcases hat b hb with h5 | h5
      · obtain ⟨q0, k1, k2⟩ := hrow b h5
        exact hne' (h.sep.ginj.1 _ _ q0 y b k1 h4 k2 hb')
      · have := oldlt j' y b h4 hb'; omega
    · subst h3
      rw [Env.updG_same] at hb'
      rw [Env.updG_ne E v' (fun e => hne e.symm)] at hb
      exfalso
      rcases hat b hb' with h5 | h5
      · obtain ⟨q0, k1, k2⟩ := hrow b h5
        exact hne (h.sep.ginj.1 _ _ q0 x b k1 h2 k2 hb)
      · have := oldlt j x b h2 hb; omega
    · rw [Env.updG_ne E v' (fun e => hne e.symm)] at hb
      rw [Env.updG_ne E v' (fun e => hne' e.symm)] at hb'
      exact h.sep.ginj.1 j j' x y b h2 h4 hb hb'
  · rcases look_cases hj with ⟨rfl, rfl⟩ | ⟨hne, h2⟩
    · rw [Env.updG_same] at hb
      rcases hat b hb with h3 | h3
      · exact (hrowB b h3).1
      · exact .inl (Nat.le_trans h.size0 h3)
    · rw [Env.updG_ne E v' (fun e => hne e.symm)] at hb
      exact h.sep.ginj.2 j x b h2 hb
  · obtain ⟨c', hx', _⟩ := hB hx
    have hlt : E.ρ g < w.heap.size := (h.mem.blk g t c' hx').lt
    rcases look_cases hj with ⟨rfl, rfl⟩ | ⟨hne, h2⟩
    · rw [Env.updG_same]
      intro he
      rcases hat _ he with h5 | h5
      · obtain ⟨q0, k1, k2⟩ := hrow _ h5
        exact h.sep.mix g k _ _ q0 hx' k1 k2
      · have h6 : E.ρ g = (E.updG k v').ρ g := rfl
        omega
    · rw [Env.updG_ne E v' (fun e => hne e.symm)]
      exact h.sep.mix g j _ _ y hx' h2
  · -- first narrow, then move
    refine HeldIn.move (w := w) (HeldIn.mono (R' := fun b => Apart X.w0.heap.size X.R bf grs E b ∧ Apart X.w0.heap.size X.R bf' ((k, q') :: grs) (E.updG k v') b) (h.sep.held g Φ (hH hΦ)) fun b hb h1 => ⟨h1, hap b hb h1⟩) hg.size (fun b hb h1 => hkeep b hb (hapr b h1.1)) |>.mono fun b _ h1 => h1.2

def SState.setgr (st : SState) (k : Nat) (v : Value) (q : GQ) : SState :=
  { slots := subSlots k v st.slots, m := { st.m with blks := subBlks k v st.m.blks, grs := (k, q) :: st.m.grs } }
theorem St.setgr (S : St X st E a w) (k : Nat) (q' : GQ) {w' : World} {v' : Value} {row : Option Nat} (hg : w.grownBy w' row) (hrow : ∀ b, row = some b → ∃ q, look st.m.grs k = some q ∧ (E.gr k).ownBlock = some b)
    (hown : GrAt w' 0 q' v') (hat : ∀ b, v'.ownBlock = some b → row = some b ∨ w.heap.size ≤ b) : St X (st.setgr k (E.gr k) q') (E.updG k v') a w' := by
  have := StF.setgr S k q' hg hrow hown hat
  unfold St
  simp only [SState.setgr]
  rw [show look (subSlots k (E.gr k) st.slots) = fun t => (look st.slots t).map (SV.subG k (E.gr k)) from funext (look_subSlots _ _ _), show look (subBlks k (E.gr k) st.m.blks) = fun g => (look st.m.blks g).map (BE.subG k (E.gr k)) from funext (look_subBlks _ _ _)]
  exact this
/-- an empty slice that is to grow -/
theorem St.nilgr (S : St X st E a w) (k : Nat) (ty : TypeId) (n : Nat) : St X (st.setgr k (E.gr k) ⟨ty, n, 0, []⟩) (E.updG k (.slice none 0 0)) a w :=
  S.setgr k _ (row := none) ⟨rfl, rfl, rfl, Nat.le_refl _, fun _ _ _ => rfl⟩ (fun b hb => by cases hb) (World.ownsRow_nil _ _ _ _) (fun b hb => by simp [Value.ownBlock] at hb)
theorem owns_mono {w : World} {B B' : Nat} {e : TypeId} {size n : Nat} {v : Value} {xs : List Value} (h : w.ownsRow B e size v n xs) (hB : B' ≤ B) : w.ownsRow B' e size v n xs :=
  ⟨h.1, h.2.imp id fun ⟨g, cap, cur, h1, h2, h3⟩ => ⟨g, cap, cur, h1, Nat.le_trans hB h2, h3⟩⟩

/-! a region, opened -/
theorem sym_open {id : Nat} {ops : List Oper} {rest : Code} {Q : Exit → Act → World → Prop} (h : wpList P ops.toArray (Exit.then (rest.wp P Q) Q) ops a w) : (Code.seq (Code.region id ops.toArray false) rest).wp P Q a w := wp_seq (wp_region_lit h)
theorem sym_open_last {id : Nat} {ops : List Oper} {Q : Exit → Act → World → Prop} (h : wpList P ops.toArray Q ops a w) : (Code.region id ops.toArray false).wp P Q a w := wp_region_lit h
/-- the next operations, reckoned -/
def evalN (lay : Lay) (ops : List Oper) (hs : List (Nat × Hint)) (i n : Nat) (l : List Oper) (st : SState) : Option (SState × List Ob) := match evalOps lay ops hs i (l.take n) st with
  | some (_, obs, st') => some (st', obs)
  | none => none
theorem sym_run {lay : Lay} (hl : LayOK P lay) {ops l : List Oper} (hs : List (Nat × Hint)) (i n : Nat) (st' : SState) (obs : List Ob) {Q : Exit → Act → World → Prop} (S : St X st E a w) (hn : dstB X.n l = true)
    (hev : evalN lay ops hs i n l st = some (st', obs)) (ho : AllOb P X.w0.heap.size obs) (k : ∀ E' a' w', St X st' E' a' w' → wpList P ops.toArray Q (l.drop n) a' w') : wpList P ops.toArray Q l a w := by
  unfold evalN at hev
  cases h1 : evalOps lay ops hs i (l.take n) st with
  | none => rw [h1] at hev; simp at hev
  | some r =>
    obtain ⟨tr, obs2, st2⟩ := r
    rw [h1] at hev
    simp only [Option.some.injEq, Prod.mk.injEq] at hev
    obtain ⟨rfl, rfl⟩ := hev
    have := seq_sound (X := X) (Q := Q) (rest := l.drop n) hl (l.take n) i st tr obs2 st2 E a w h1 ho (fun o ho => dstB_ok hn o (List.mem_of_mem_take ho)) S k
    rwa [List.take_append_drop] at this
theorem sym_done {ops : List Oper} {l : List Oper} {Q : Exit → Act → World → Prop} (hl : l = []) (h : Q .normal a w) : wpList P ops.toArray Q l a w := by subst hl; exact h
/-- fewer things known -/
theorem St.pick (S : St X st E a w) (ks gs : List Nat) (st' : SState) (h : (⟨pickL ks st.slots, { st.m with blks := pickL gs st.m.blks }⟩ : SState) = st') : St X st' E a w := by
  subst h
  exact StF.weak S (fun t sv h => pickL_sub _ _ _ _ h) (fun g x h => pickL_sub _ _ _ _ h)
/-- append of a row of the call's own -/
theorem sym_append {lay : Lay} (hl : LayOK P lay) {ops l r : List Oper} {o : Oper} {Q : Exit → Act → World → Prop} (hL : l = o :: r) (x y : Operand) (t : TypeId) (ho : o.op = .call { callee := .builtin .append, args := #[x, y], argTypes := #[t, t] }) (hgd : o.guard = none)
    (S : St X st E a w) (k g len m cap : Nat) (ty : TypeId) (cs : List SV) (q : GQ) (d dt : TyD) (hx : opnd st.slots x = some (.gr k)) (hq : look st.m.grs k = some q) (hy : opnd st.slots y = some (.row g 0 m cap)) (hg : look st.m.blks g = some (.blk ty cs))
    (hdt : look lay t = some dt) (hsl : dt.k = .sli q.ty q.n) (hd : look lay q.ty = some d) (hn : d.n = q.n) (hpos : 0 < q.n) (hcs : cs.length = m * q.n) (hone : cs.all (oneB st.m) = true) (hdn : ∀ e, o.dst = some e → e < X.n)
    (q' : GQ) (e1 : q'.ty = q.ty) (e2 : q'.n = q.n) (e3 : q'.len = q.len + m) (e4 : ∀ E, q'.xs = q.xs ++ SV.vals E cs) (hb1 : q.len + m ≤ 4611686018427387904) (hb2 : (q.len + m) * d.by' ≤ 140737488355328) (hlen : len = len)
    (kk : ∀ v0 E' a' w', St X { st.setgr k v0 q' with slots := match o.dst with | some d => (d, .gr k) :: (st.setgr k v0 q').slots | none => (st.setgr k v0 q').slots } E' a' w' → wpList P ops.toArray Q r a' w') : wpList P ops.toArray Q l a w := by
  subst hL
  have ev : ∀ z sv, opnd st.slots z = some sv → a.eval z = sv.val E := fun z sv hz => by
    cases z with
    | tmp t => simp only [opnd] at hz; have := S.slot t sv hz; simp [Act.eval, this]
    | const v => simp [opnd] at hz; subst hz; rfl
    | global g => simp [opnd] at hz; subst hz; rfl
    | func f => simp [opnd] at hz; subst hz; rfl
  obtain ⟨u, hu, hmm⟩ := (hl t dt hdt).under
  rw [hsl] at hmm
  obtain ⟨rfl, hkn, hes⟩ := hmm
  obtain ⟨_, i, hi, his, z, hz, hzc⟩ := (hl q.ty d hd).size
  have hby : i.bytes = d.by' := by have := (hl q.ty d hd).bytes; simpa [Program.bytesOf, hi] using this
  have hzs : z.cells.size = q.n := by
    have := (hl q.ty d hd).zlen
    rw [← hn, ← this, ← hzc]
    simp
  have hG := S.mem.gr k q hq
  have hB := S.mem.blk g ty cs hg
  have hgr : Nice E st.m := ⟨fun k q hq => by
    obtain ⟨A, c, e⟩ := gr_slice (S.mem.gr k q hq)
    exact ⟨A, _, c, e⟩, S.mem.one⟩
  refine wpList_append_own_at w hgd x y t ho 0 q.ty i z q.n d.by' hu hi hz (his.trans hn) hby hzs hpos (E.gr k) q.len q.xs (ev x _ hx) hG ⟨E.ρ g, 0, none⟩ m cap (SV.vals E cs) (ev y _ hy) (by rw [vals_length, hcs]) (fun j u hj => by
    rw [add_plain', Nat.zero_add, hB.cell]; simpa using hj) (fun v hv => ?_) (by simp only [maxLen]; omega) hb2 (Nat.zero_le _) ?_
  · rw [SV.vals_map] at hv
    obtain ⟨s, hs, rfl⟩ := List.mem_map.1 hv
    exact oneB_ok hgr (List.all_eq_true.1 hone s hs)
  · intro v' w' hown hgrow _ hat
    have S' := S.setgr k q' (row := (E.gr k).ownBlock) hgrow (fun b hb => ⟨q, hq, hb⟩) (by unfold GrAt; rw [e1, e2, e3, e4 E]; exact hown) (fun b hb => by
      rcases hat with h1 | h1
      · rw [h1] at hb; exact .inl hb
      · rw [h1] at hb; simp only [Option.some.injEq] at hb; omega)
    have S2 := StF.putD S' hdn (.gr k)
    simp only [SV.val, Env.updG_same] at S2
    refine kk (E.gr k) (E.updG k v') (a.put o.dst v') w' ?_
    unfold St
    cases hdst : o.dst with
    | none => rw [hdst] at S2; exact S2
    | some e =>
      rw [hdst] at S2
      simp only
      rw [look_upd]
      exact S2
end Go.Proofs.Ytlcccomdijdkaaa
