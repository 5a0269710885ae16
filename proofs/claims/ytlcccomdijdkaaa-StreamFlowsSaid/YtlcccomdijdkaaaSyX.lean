/- Rows that grow: fewer of them known; handed over; a slice handed over, of whatever kind. -/
import Derived.Test.YtlcccomdijdkaaaSyW
namespace Go.Proofs.Ytlcccomdijdkaaa
open Go.RowKit

variable {P : Program} {X : Ctx} {E : Env} {a : Act} {w : World} {st : SState}
/-- fewer things known, rows that grow among them -/
theorem St.pickG (S : St X st E a w) (ks gs js : List Nat) (st' : SState) (h : (⟨pickL ks st.slots, { st.m with blks := pickL gs st.m.blks, grs := pickL js st.m.grs }⟩ : SState) = st') : St X st' E a w := by
  subst h
  have hb : ∀ g y, look (pickL gs st.m.blks) g = some y → look st.m.blks g = some y := fun g y h => pickL_sub _ _ _ _ h
  have hg : ∀ k q, look (pickL js st.m.grs) k = some q → look st.m.grs k = some q := fun k q h => pickL_sub _ _ _ _ h
  have ho : ∀ k, OwnB (look (pickL gs st.m.blks)) (pickL js st.m.grs) E k → OwnB (look st.m.blks) st.m.grs E k := by
    rintro k (⟨g, t, cs, hx, e⟩ | ⟨j, q, hx, e⟩)
    · exact .inl ⟨g, t, cs, hb _ _ hx, e⟩
    · exact .inr ⟨j, q, hg _ _ hx, e⟩
  have hap : ∀ k, Apart X.w0.heap.size X.R (look st.m.blks) st.m.grs E k → Apart X.w0.heap.size X.R (look (pickL gs st.m.blks)) (pickL js st.m.grs) E k := fun k hk => ⟨fun h => hk.1 (ho k h), hk.2⟩
  exact ⟨fun t sv ht => S.slot t sv (pickL_sub _ _ _ _ ht), S.size, S.defers, S.kept, ⟨fun g t cs hx => S.mem.blk g t cs (hb _ _ hx), S.mem.rd, fun k q hq => S.mem.gr k q (hg _ _ hq), S.mem.one⟩,
    ⟨fun g t cs hx => S.sep.base g t cs (hb _ _ hx), fun g g' t t' cs cs' hx hy => S.sep.inj g g' _ _ _ _ (hb _ _ hx) (hb _ _ hy), ⟨fun k k' x y b hx hy => S.sep.ginj.1 k k' x y b (hg _ _ hx) (hg _ _ hy), fun k x b hx => S.sep.ginj.2 k x b (hg _ _ hx)⟩, fun g k t cs y hx hy => S.sep.mix g k t cs y (hb _ _ hx) (hg _ _ hy), fun s q b off hq hl hA => hap b (S.sep.rd s q b off hq hl hA), fun g Φ hΦ => (S.sep.held g Φ (hb _ _ hΦ)).mono fun k _ => hap k⟩, S.pin⟩
/-- a row that grows, as a slice that is handed over -/
theorem Mem.grSl {B : Nat} {R : Nat → Prop} {m : MState} {k : Nat} {q : GQ} (h : Mem B R m E w) (hq : look m.grs k = some q) : ∃ A cap, E.gr k = .slice A q.len cap ∧ q.len ≤ cap ∧ ∀ get : Nat → List Value, (∀ i, i < q.len → ∀ j x, (get i)[j]? = some x → q.xs[i * q.n + j]? = some x) → SlAt w A q.len q.n get := by
  have hG := h.gr k q hq
  have hS := fun get hg => (GrAt.slice (B := 0) hG (fun b _ => Nat.zero_le _) 0 (fun _ => E.gr k) rfl get hg).out
  obtain ⟨A, c, e⟩ := gr_slice hG
  obtain ⟨A1, c1, e1, hc, _⟩ := hS (fun _ => []) (fun i hi j x hx => by simp at hx)
  rw [e] at e1
  simp only [Value.slice.injEq, true_and] at e1
  obtain ⟨rfl, rfl⟩ := e1
  refine ⟨A, c, e, hc, fun get hg => ?_⟩
  obtain ⟨A2, c2, e2, _, hs⟩ := hS get hg
  rw [e] at e2
  simp only [Value.slice.injEq, true_and] at e2
  obtain ⟨rfl, rfl⟩ := e2
  exact hs
theorem SlAt.nil {n : Nat} {get : Nat → List Value} : SlAt w none 0 n get := fun h => absurd h (Nat.lt_irrefl 0)
theorem InR.new {B : Nat} {A : Option Addr} {len : Nat} {R : Nat → Prop} {n : Nat} {get : Nat → List Value} {W : World} (hs : SlAt W A len n get) (hR : ∀ k, k < W.heap.size → R k) : InR R A len := fun b off hl hA => by
  obtain ⟨b', off', hA', hlt, _⟩ := hs hl
  rw [hA] at hA'
  have e : b = b' := by simpa using congrArg (fun o => (o.map Addr.block).getD 0) hA'
  subst e
  exact hR b hlt
/-- the next operations, reckoned; of what they leave, this is kept -/
def evalP (lay : Lay) (ops : List Oper) (hs : List (Nat × Hint)) (i n : Nat) (ks gs : List Nat) (l : List Oper) (st : SState) : Option (SState × List Ob) := match evalN lay ops hs i n l st with
  | some (s, obs) => some (⟨pickL ks s.slots, { s.m with blks := pickL gs s.m.blks }⟩, obs)
  | none => none
theorem sym_runP {lay : Lay} (hl : LayOK P lay) {ops l : List Oper} (hs : List (Nat × Hint)) (i n : Nat) (ks gs : List Nat) (st' : SState) (obs : List Ob) {Q : Exit → Act → World → Prop} (S : St X st E a w) (hn : dstB X.n l = true)
    (hev : evalP lay ops hs i n ks gs l st = some (st', obs)) (ho : AllOb P X.w0.heap.size obs) (k : ∀ E' a' w', St X st' E' a' w' → wpList P ops.toArray Q (l.drop n) a' w') : wpList P ops.toArray Q l a w := by
  unfold evalP at hev
  cases h1 : evalN lay ops hs i n l st with
  | none => rw [h1] at hev; simp at hev
  | some r =>
    obtain ⟨s, o2⟩ := r
    rw [h1] at hev
    simp only [Option.some.injEq, Prod.mk.injEq] at hev
    obtain ⟨rfl, rfl⟩ := hev
    exact sym_run hl hs i n s o2 S hn h1 ho fun E' a' w' S' => k E' a' w' (S'.pick ks gs _ rfl)
theorem sym_runIP {lay : Lay} (hl : LayOK P lay) {ops k : List Oper} {ro : Option Nat} {n : Nat} {Po : Exit → Act → World → Prop} (hs : List (Nat × Hint)) (i m : Nat) (ks gs : List Nat) (st' : SState) (obs : List Ob) (S : St X st E a w) (hn : dstB X.n k = true) (hdf : noDefer k = true)
    (hev : evalP lay ops hs i m ks gs k st = some (st', obs)) (ho : AllOb P X.w0.heap.size obs) (kk : ∀ E' a' w', St X st' E' a' w' → wpListIn (FW ro) n P ops.toArray Po (k.drop m) a' w') : wpListIn (FW ro) n P ops.toArray Po k a w := by
  unfold evalP at hev
  cases h1 : evalN lay ops hs i m k st with
  | none => rw [h1] at hev; simp at hev
  | some r =>
    obtain ⟨s, o2⟩ := r
    rw [h1] at hev
    simp only [Option.some.injEq, Prod.mk.injEq] at hev
    obtain ⟨rfl, rfl⟩ := hev
    exact sym_runI hl hs i m s o2 S hn hdf h1 ho fun E' a' w' S' => kk E' a' w' (S'.pick ks gs _ rfl)
end Go.Proofs.Ytlcccomdijdkaaa
