/- Regions, in the order of their text or in whatever order: the reckoning over symbolic states serves all of them. -/
import Derived.Test.YtlcccomdijdkaaaSyH
namespace Go.Proofs.Ytlcccomdijdkaaa
open Go.RowKit

variable {P : Program} {X : Ctx} {E : Env} {a : Act} {w : World}

def applyTI (st : SState) (x : TI) : SState :=
  { slots := match x.dst with | some d => (d, x.sv) :: st.slots | none => st.slots
    m := match x.blk with | some (g, y) => { st.m with blks := (g, y) :: st.m.blks } | none => st.m }
def hintAt (hs : List (Nat × Hint)) (i : Nat) : Hint := match look hs i with | some h => h | none => {}
/-- what was reckoned of one operation: it, its hint, the state ahead of it, what it leaves -/
structure IT where
  o : Oper
  h : Hint
  st : SState
  x : TI
def evalOps (lay : Lay) (ops : List Oper) (hs : List (Nat × Hint)) : Nat → List Oper → SState → Option (List IT × List Ob × SState)
  | _, [], st => some ([], [], st)
  | i, o :: r, st => match itemOf lay ops st o (hintAt hs i) with
    | some (x, ob) => match evalOps lay ops hs (i + 1) r (applyTI st x) with
      | some (tr, obs, st') => some (⟨o, hintAt hs i, st, x⟩ :: tr, ob ++ obs, st')
      | none => none
    | none => none
def pickL {β : Type} : List Nat → List (Nat × β) → List (Nat × β)
  | [], _ => []
  | k :: ks, l => match look l k with
    | some x => (k, x) :: pickL ks l
    | none => pickL ks l
def evalR (lay : Lay) (ops : List Oper) (hs : List (Nat × Hint)) (ks gs : List Nat) (st : SState) : Option (SState × List Ob) := match evalOps lay ops hs 0 ops st with
  | some (_, obs, st') => some ({ slots := pickL ks st'.slots, m := { st'.m with blks := pickL gs st'.m.blks } }, obs)
  | none => none
def dstB (n : Nat) : List Oper → Bool
  | [] => true
  | o :: r => (match o.dst with | some d => Nat.blt d n | none => true) && dstB n r
theorem dstB_ok {n : Nat} : ∀ {l : List Oper}, dstB n l = true → ∀ o ∈ l, ∀ d, o.dst = some d → d < n
  | [], _, o, ho, _, _ => by cases ho
  | o' :: r, h, o, ho, d, hd => by
    simp only [dstB, Bool.and_eq_true] at h
    rcases List.mem_cons.1 ho with rfl | ho
    · rw [hd] at h; exact Nat.lt_of_succ_le (Nat.le_of_ble_eq_true h.1)
    · exact dstB_ok h.2 o ho d hd

theorem applyTI_slots (st : SState) (x : TI) : look (applyTI st x).slots = putF (look st.slots) x.dst x.sv := by
  unfold applyTI putF
  cases x.dst with
  | none => rfl
  | some d => exact look_upd _ _ _
theorem applyTI_blks (st : SState) (x : TI) : look (applyTI st x).m.blks = blkF (look st.m.blks) x.blk := by
  unfold applyTI blkF
  cases x.blk with
  | none => rfl
  | some b => exact look_upd _ _ _
theorem applyTI_rest (st : SState) (x : TI) : (applyTI st x).m.rds = st.m.rds ∧ (applyTI st x).m.grs = st.m.grs  := by
  unfold applyTI
  cases x.blk <;> exact ⟨rfl, rfl⟩
theorem pickL_sub {β : Type} : ∀ (ks : List Nat) (l : List (Nat × β)) (k : Nat) (x : β), look (pickL ks l) k = some x → look l k = some x
  | [], l, k, x, h => by simp [pickL, look] at h
  | k' :: ks, l, k, x, h => by
    simp only [pickL] at h
    cases h1 : look l k' with
    | none => rw [h1] at h; exact pickL_sub ks l k x h
    | some y =>
      rw [h1] at h
      rcases look_cases h with ⟨rfl, rfl⟩ | ⟨_, h2⟩
      · exact h1
      · exact pickL_sub ks l k x h2

theorem StF.weak {sf sf' : Nat → Option SV} {bf bf' : BF} {rds : List (Nat × Q)} {grs : List (Nat × GQ)} (h : StF X sf bf rds grs E a w)
    (h1 : ∀ t sv, sf' t = some sv → sf t = some sv) (h2 : ∀ g x, bf' g = some x → bf g = some x) : StF X sf' bf' rds grs E a w := by
  have ho : ∀ k, OwnB bf' grs E k → OwnB bf grs E k := by
    rintro k (⟨g, t, cs, hx, e⟩ | hk)
    · exact .inl ⟨g, t, cs, h2 g _ hx, e⟩
    · exact .inr hk
  have hap : ∀ k, Apart X.w0.heap.size X.R bf grs E k → Apart X.w0.heap.size X.R bf' grs E k := fun k hk => ⟨fun hb => hk.1 (ho k hb), hk.2⟩
  exact ⟨fun t sv ht => h.slot t sv (h1 t sv ht), h.size, h.defers, h.kept, ⟨fun g t cs hg => h.mem.blk g t cs (h2 g _ hg), h.mem.rd, h.mem.gr, h.mem.one⟩,
    ⟨fun g t cs hg => h.sep.base g t cs (h2 g _ hg), fun g g' t t' c c' hx hy => h.sep.inj g g' t t' c c' (h2 g _ hx) (h2 g' _ hy), h.sep.ginj, fun g k t cs y hx => h.sep.mix g k t cs y (h2 g _ hx), fun s q b off hq hl hA => hap b (h.sep.rd s q b off hq hl hA),
      fun g Φ hΦ => (h.sep.held g Φ (h2 g _ hΦ)).mono fun k _ => hap k⟩, h.pin⟩

theorem itemOf_new {lay : Lay} {ops : List Oper} {st : SState} {o : Oper} {h : Hint} {x : TI} {obs : List Ob} (hi : itemOf lay ops st o h = some (x, obs)) :
    x.dst = o.dst ∧ (∀ g y, x.blk = some (g, y) → x.new = true → freshS g st.slots = true ∧ freshBl g st.m.blks = true) ∧ (∀ g y, x.blk = some (g, y) → x.new = false → ∃ t cs cs', y = .blk t cs ∧ look st.m.blks g = some (.blk t cs') ∧ g ∈ touches (effS ops st o h) h o.op) := by
  unfold itemOf at hi
  cases hog : h.og with
  | true =>
    rw [hog] at hi
    simp only [itemOpen] at hi
    split at hi
    · split at hi <;> simp only [Option.some.injEq, Prod.mk.injEq, reduceCtorEq] at hi
      · obtain ⟨rfl, rfl⟩ := hi; exact ⟨rfl, (fun g y h => by cases h), (fun g y h => by cases h)⟩
      · obtain ⟨rfl, rfl⟩ := hi; exact ⟨rfl, (fun g y h => by cases h), (fun g y h => by cases h)⟩
    · cases hi
  | false =>
  rw [hog] at hi
  have eff : effS ops st o h = st.slots := by unfold effS; rw [hog]
  rw [eff]
  simp only [itemShut] at hi
  cases hw : wantB ops st.slots o with
  | none => rw [hw] at hi; simp at hi
  | some b =>
    rw [hw] at hi
    cases b with
    | false =>
      simp only [Option.some.injEq, Prod.mk.injEq] at hi
      obtain ⟨rfl, rfl⟩ := hi
      exact ⟨rfl, (fun g y h => by cases h), (fun g y h => by cases h)⟩
    | true =>
      simp only at hi
      cases he : evalOp lay st.slots st.m h o.op with
      | none => rw [he] at hi; simp at hi
      | some r =>
        obtain ⟨out, obs'⟩ := r
        rw [he] at hi
        have hcast : ∀ (sv : SV) (blk : Option (Nat × BE)) (nw : Bool), castTI h o.dst sv blk nw obs' = (x, obs) → x.dst = o.dst ∧ x.blk = blk ∧ x.new = nw := fun sv blk nw hc => by
          unfold castTI at hc
          split at hc <;> simp only [Prod.mk.injEq] at hc <;> obtain ⟨rfl, rfl⟩ := hc <;> exact ⟨rfl, rfl, rfl⟩
        cases out with
        | val sv =>
          simp only [Option.some.injEq] at hi
          obtain ⟨e1, e2, e3⟩ := hcast _ _ _ hi
          exact ⟨e1, fun g y h => (by rw [e2] at h; cases h), fun g y h => (by rw [e2] at h; cases h)⟩
        | new t cs sv =>
          simp only at hi
          split at hi
          · rename_i hf
            simp only [Option.some.injEq] at hi
            obtain ⟨e1, e2, e3⟩ := hcast _ _ _ hi
            simp only [Bool.and_eq_true] at hf
            refine ⟨e1, fun g y h _ => ?_, fun g y h hh => (by rw [e3] at hh; cases hh)⟩
            rw [e2] at h
            simp only [Option.some.injEq, Prod.mk.injEq] at h
            obtain ⟨rfl, _⟩ := h
            exact hf.1.1
          · cases hi
        | sto g off t cs xs =>
          simp only [Option.some.injEq, Prod.mk.injEq] at hi
          obtain ⟨rfl, rfl⟩ := hi
          refine ⟨rfl, (fun g y h hh => by cases hh), fun g' y' h _ => ?_⟩
          simp only [Option.some.injEq, Prod.mk.injEq] at h
          obtain ⟨rfl, rfl⟩ := h
          clear hcast hw
          obtain ⟨ht0, he⟩ := evalOp_sto he
          rw [ht0]
          cases hop : o.op <;> rw [hop] at he <;> simp only [evalOp0, reduceCtorEq] at he
          case store t x y =>
            split at he
            · rename_i d g2 off2 v h1 h2 h3
              split at he
              · rename_i ty cs2 vs h4 h5
                split at he
                · simp only [Option.some.injEq, Prod.mk.injEq, Out.sto.injEq] at he
                  obtain ⟨⟨rfl, rfl, rfl, rfl, rfl⟩, rfl⟩ := he
                  exact ⟨_, _, _, rfl, h4, by simp [touches0, h2]⟩
                · cases he
              · cases he
            · cases he
          case unOp op t x => exfalso; cases op <;> simp only [reduceCtorEq] at he <;> repeat' (first | (split at he) | (cases he; done))
          case makeFunc fn first cap => exfalso; cases fn <;> simp only [reduceCtorEq] at he <;> repeat' (first | (split at he) | (cases he; done))
          case call c =>
            exfalso
            obtain ⟨callee, ar, ts⟩ := c
            cases callee with
            | value y => simp only at he; repeat' (first | (split at he) | (cases he; done))
            | invoke y n => simp at he
            | builtin b =>
              cases b <;> simp only [reduceCtorEq] at he
              all_goals (repeat' (first | (split at he) | (cases he; done)))
          all_goals (exfalso; repeat' (first | (split at he) | (cases he; done)))
        | callx f args res Φ =>
          simp only at hi
          split at hi
          · rename_i hf
            simp only [Option.some.injEq] at hi
            obtain ⟨e1, e2, e3⟩ := hcast _ _ _ hi
            simp only [Bool.and_eq_true] at hf
            refine ⟨e1, fun g y h _ => ?_, fun g y h hh => (by rw [e3] at hh; cases hh)⟩
            rw [e2] at h
            simp only [Option.some.injEq, Prod.mk.injEq] at h
            obtain ⟨rfl, _⟩ := h
            exact hf.1
          · cases hi
        | ext res Φ =>
          simp only at hi
          split at hi
          · rename_i hf
            simp only [Option.some.injEq] at hi
            obtain ⟨e1, e2, e3⟩ := hcast _ _ _ hi
            simp only [Bool.and_eq_true] at hf
            refine ⟨e1, fun g y h _ => ?_, fun g y h hh => (by rw [e3] at hh; cases hh)⟩
            rw [e2] at h
            simp only [Option.some.injEq, Prod.mk.injEq] at h
            obtain ⟨rfl, _⟩ := h
            exact hf.1
          · cases hi
        | call f args res =>
          simp only [Option.some.injEq] at hi
          obtain ⟨e1, e2, e3⟩ := hcast _ _ _ hi
          exact ⟨e1, fun g y h => (by rw [e2] at h; cases h), fun g y h => (by rw [e2] at h; cases h)⟩

/-- the operations in the order of the text -/
theorem seq_sound {lay : Lay} (hl : LayOK P lay) {ops : List Oper} {hs : List (Nat × Hint)} {rest : List Oper} {Q : Exit → Act → World → Prop} : ∀ (l : List Oper) (i : Nat) (st : SState) (tr : List IT) (obs : List Ob) (st' : SState) (E : Env) (a : Act) (w : World),
    evalOps lay ops hs i l st = some (tr, obs, st') → AllOb P X.w0.heap.size obs → (∀ o ∈ l, ∀ d, o.dst = some d → d < X.n) → St X st E a w → (∀ E' a' w', St X st' E' a' w' → wpList P ops.toArray Q rest a' w') → wpList P ops.toArray Q (l ++ rest) a w
  | [], i, st, tr, obs, st', E, a, w, he, _, _, S, k => by
    simp only [evalOps, Option.some.injEq, Prod.mk.injEq] at he
    obtain ⟨_, _, rfl⟩ := he
    exact k E a w S
  | o :: l, i, st, tr, obs, st', E, a, w, he, ho, hd, S, k => by
    simp only [evalOps] at he
    cases hi : itemOf lay ops st o (hintAt hs i) with
    | none => rw [hi] at he; simp at he
    | some r =>
      obtain ⟨x, ob⟩ := r
      rw [hi] at he
      simp only at he
      cases hr : evalOps lay ops hs (i + 1) l (applyTI st x) with
      | none => rw [hr] at he; simp at he
      | some r2 =>
        obtain ⟨tr2, obs2, st2⟩ := r2
        rw [hr] at he
        simp only [Option.some.injEq, Prod.mk.injEq] at he
        obtain ⟨rfl, rfl, rfl⟩ := he
        obtain ⟨o1, o2⟩ := AllOb.append ho
        obtain ⟨n1, n2, n3⟩ := itemOf_new hi
        rw [List.cons_append]
        refine wpList_step fun K hK => item_sound hl hi o1 S (fun _ _ => rfl) (fun _ _ => rfl) (fun g y h1 h2 => ?_) (fun g y h1 h2 => n3 g y h1 h2) (fun d hd' => hd o (by simp) d hd') (fun E' a' w' S' => hK a' w' ?_)
        · obtain ⟨f1, f2⟩ := n2 g y h1 h2
          exact ⟨(freshBl_ok f2).1, freshS_ok f1, (freshBl_ok f2).2⟩
        · refine seq_sound hl l (i + 1) (applyTI st x) tr2 obs2 st2 E' a' w' hr o2 (fun o' ho' => hd o' (by simp [ho'])) ?_ k
          unfold St
          rw [applyTI_slots, applyTI_blks, (applyTI_rest st x).1, (applyTI_rest st x).2]
          exact S'

theorem sym_region_text {lay : Lay} (hl : LayOK P lay) {id : Nat} {ops : List Oper} (hs : List (Nat × Hint)) (ks gs : List Nat) {st : SState} (st' : SState) (obs : List Ob) {Q : Exit → Act → World → Prop} (hn : dstB X.n ops = true)
    (hev : evalR lay ops hs ks gs st = some (st', obs)) (ho : AllOb P X.w0.heap.size obs) (S : St X st E a w) (k : ∀ E' a' w', St X st' E' a' w' → Q .normal a' w') : (Code.region id ops.toArray false).wp P Q a w := by
  unfold evalR at hev
  cases h1 : evalOps lay ops hs 0 ops st with
  | none => rw [h1] at hev; simp at hev
  | some r =>
    obtain ⟨tr, obs2, st2⟩ := r
    rw [h1] at hev
    simp only [Option.some.injEq, Prod.mk.injEq] at hev
    obtain ⟨rfl, rfl⟩ := hev
    refine wp_region_lit ?_
    have := seq_sound (X := X) (Q := Q) (rest := []) hl ops 0 st tr obs2 st2 E a w h1 ho (dstB_ok hn) S (fun E' a' w' S' => k E' a' w' (S'.weak (fun t sv h => pickL_sub _ _ _ _ h) (fun g x h => pickL_sub _ _ _ _ h)))
    rwa [List.append_nil] at this
end Go.Proofs.Ytlcccomdijdkaaa
