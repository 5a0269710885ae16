/- One operation of a region, met in a world of which the symbolic state is known. -/
import Derived.Test.YtlcccomdijdkaaaSyG
namespace Go.Proofs.Ytlcccomdijdkaaa
open Go.RowKit

variable {P : Program} {X : Ctx} {sf : Nat → Option SV} {bf : BF} {rds : List (Nat × Q)} {grs : List (Nat × GQ)} {E : Env} {a : Act} {w : World}

/-- what an operation leaves: a slot, a block -/
structure TI where
  dst : Option Nat
  sv : SV
  blk : Option (Nat × BE)
  new : Bool
def wantB (ops : List Oper) (σ : List (Nat × SV)) (o : Oper) : Option Bool := match o.guard with
  | none => some true
  | some (j, want) => match ops[j]? with
    | some oj => match oj.dst with
      | some d => match look σ d with
        | some (.v (.bool b)) => some (match b, want with | true, true => true | false, false => true | _, _ => false)
        | _ => none
      | none => none
    | none => none
def freshS (g : Nat) : List (Nat × SV) → Bool
  | [] => true
  | (_, x) :: r => x.free g && freshS g r
def freshBl (g : Nat) : List (Nat × BE) → Bool
  | [] => true
  | (k, y) :: r => !Nat.beq k g && y.free g && freshBl g r
def castTI (h : Hint) (dst : Option Nat) (sv : SV) (blk : Option (Nat × BE)) (new : Bool) (obs : List Ob) : TI × List Ob := match h.cast with
  | some sv' => (⟨dst, sv', blk, new⟩, .eq sv sv' :: obs)
  | none => (⟨dst, sv, blk, new⟩, obs)
def wcSV : SV → Bool → Option Bool
  | .v (.bool b), true => some b
  | .v (.bool b), false => some (!b)
  | .gd _ _ W x, want => match wcSV x want with
    | some b => some (W && b)
    | none => none
  | _, _ => none
/-- an open guard: its slot, what it wants, whether it is so -/
def wantO (ops : List Oper) (σ : List (Nat × SV)) (o : Oper) : Option (Nat × Bool × Bool) := match o.guard with
  | some (j, want) => match ops[j]? with
    | some oj => match oj.dst with
      | some d => match look σ d with
        | some x => match wcSV x want with
          | some W => some (d, want, W)
          | none => none
        | none => none
      | none => none
    | none => none
  | none => none
def projL (d : Nat) (want W : Bool) : List (Nat × SV) → List (Nat × SV)
  | [] => []
  | (t, x) :: r => (t, (projSV d want W x).1) :: projL d want W r
def projOb (d : Nat) (want W : Bool) (σ : List (Nat × SV)) : List Operand → List Ob
  | [] => []
  | .tmp t :: r => (match look σ t with | some x => (projSV d want W x).2 | none => []) ++ projOb d want W σ r
  | _ :: r => projOb d want W σ r
def whenL (W : Bool) : List Ob → List Ob
  | [] => []
  | o :: r => .when W o :: whenL W r
def effS (ops : List Oper) (st : SState) (o : Oper) (h : Hint) : List (Nat × SV) := match h.og with
  | true => match wantO ops st.slots o with
    | some (d, want, W) => projL d want W st.slots
    | none => st.slots
  | false => st.slots
def itemOpen (lay : Lay) (ops : List Oper) (st : SState) (o : Oper) (h : Hint) : Option (TI × List Ob) := match wantO ops st.slots o with
  | some (d, want, W) => match evalOp lay (projL d want W st.slots) st.m h o.op with
    | some (.val sv, obs) => some (⟨o.dst, .gd d want W (castTI h o.dst sv none false obs).1.sv, none, false⟩, projOb d want W st.slots o.op.operands.toList ++ whenL W (castTI h o.dst sv none false obs).2)
    | some (.call _ _ res, obs) => some (⟨o.dst, .gd d want W (castTI h o.dst res none false obs).1.sv, none, false⟩, projOb d want W st.slots o.op.operands.toList ++ whenL W (castTI h o.dst res none false obs).2)
    | _ => none
  | none => none
def itemShut (lay : Lay) (ops : List Oper) (st : SState) (o : Oper) (h : Hint) : Option (TI × List Ob) := match wantB ops st.slots o with
  | some false => some (⟨o.dst, .v undef, none, false⟩, [])
  | some true => match evalOp lay st.slots st.m h o.op with
    | some (.val sv, obs) => some (castTI h o.dst sv none false obs)
    | some (.new t cs sv, obs) => match freshS h.g st.slots && freshBl h.g st.m.blks && SV.frees h.g cs && Nat.blt h.g 1000 with
      | true => some (castTI h o.dst sv (some (h.g, .blk t cs)) true obs)
      | false => none
    | some (.sto g off t cs xs, obs) => some (⟨o.dst, .v undef, some (g, .blk t (cs.take off ++ xs ++ cs.drop (off + xs.length))), false⟩, obs)
    | some (.call _ _ res, obs) => some (castTI h o.dst res none false obs)
    | some (.callx _ _ res Φ, obs) => match freshS h.g st.slots && freshBl h.g st.m.blks && Nat.blt h.g 1000 with
      | true => some (castTI h o.dst res (some (h.g, .held Φ)) true obs)
      | false => none
    | some (.ext res Φ, obs) => match freshS h.g st.slots && freshBl h.g st.m.blks && Nat.blt h.g 1000 with
      | true => some (castTI h o.dst res (some (h.g, .held Φ)) true obs)
      | false => none
    | none => none
  | none => none
def itemOf (lay : Lay) (ops : List Oper) (st : SState) (o : Oper) (h : Hint) : Option (TI × List Ob) := match h.og with
  | true => itemOpen lay ops st o h
  | false => itemShut lay ops st o h
def putF (sf : Nat → Option SV) (dst : Option Nat) (sv : SV) : Nat → Option SV := match dst with
  | some d => updF sf d sv
  | none => sf
def blkF (bf : BF) (b : Option (Nat × BE)) : BF := match b with
  | some (g, y) => updF bf g y
  | none => bf

theorem StF.putD (h : StF X sf bf rds grs E a w) {dst : Option Nat} (hd : ∀ d, dst = some d → d < X.n) (sv : SV) : StF X (putF sf dst sv) bf rds grs E (a.put dst (sv.val E)) w := by
  cases dst with
  | none => exact h
  | some d => exact h.put (hd d rfl) sv
theorem freshS_ok {g : Nat} : ∀ {l : List (Nat × SV)}, freshS g l = true → ∀ t sv, look l t = some sv → sv.free g = true
  | [], _, t, sv, h => by simp [look] at h
  | (k, x) :: r, hf, t, sv, h => by
    simp only [freshS, Bool.and_eq_true] at hf
    rcases look_cases h with ⟨_, rfl⟩ | ⟨_, h2⟩
    · exact hf.1
    · exact freshS_ok hf.2 t sv h2
theorem freshBl_ok {g : Nat} : ∀ {l : List (Nat × BE)}, freshBl g l = true → look l g = none ∧ ∀ k y, look l k = some y → y.free g = true
  | [], _ => ⟨rfl, fun k y h => by simp [look] at h⟩
  | (k, x) :: r, hf => by
    simp only [freshBl, Bool.and_eq_true, Bool.not_eq_true'] at hf
    obtain ⟨i1, i2⟩ := freshBl_ok hf.2
    have hk : k ≠ g := fun e => by subst e; simp at hf
    refine ⟨by rw [look_ne hk]; exact i1, fun k' y h => ?_⟩
    rcases look_cases h with ⟨_, e⟩ | ⟨_, h2⟩
    · rw [← e]
      exact hf.1.2
    · exact i2 k' y h2

theorem mem_looksAt {ops : Array Oper} {o : Oper} {t : Nat} (h : Operand.tmp t ∈ o.op.operands) : t ∈ o.looksAt ops :=
  List.mem_append_left _ (List.mem_filterMap.2 ⟨.tmp t, by simpa using h, rfl⟩)
theorem guard_looksAt {ops : Array Oper} {o oj : Oper} {j d : Nat} {want : Bool} (h : o.guard = some (j, want)) (hj : ops[j]? = some oj) (hd : oj.dst = some d) : d ∈ o.looksAt ops := by
  refine List.mem_append_right _ ?_
  rw [h]
  simp [hj, hd]

theorem restr_sub (fp : List Nat) : ∀ (l : List (Nat × BE)) (g : Nat) (x : BE), look (restr fp l) g = some x → look l g = some x ∧ g ∈ fp
  | [], g, x, h => by simp [restr, look] at h
  | (k, y) :: r, g, x, h => by
    simp only [restr] at h
    cases hb : fp.any (Nat.beq k) with
    | true =>
      rw [hb] at h
      simp only [cond_true] at h
      rcases look_cases h with ⟨rfl, rfl⟩ | ⟨hne, h2⟩
      · refine ⟨look_same _ _ _, ?_⟩
        obtain ⟨z, hz, he⟩ := List.any_eq_true.1 hb
        have := Nat.eq_of_beq_eq_true he
        subst this
        exact hz
      · rw [look_ne hne]
        exact restr_sub fp r g x h2
    | false =>
      rw [hb] at h
      simp only [cond_false] at h
      obtain ⟨h1, h2⟩ := restr_sub fp r g x h
      have hne : k ≠ g := fun e => by
        subst e
        have : fp.any (Nat.beq k) = true := List.any_eq_true.2 ⟨k, h2, by simp⟩
        rw [hb] at this
        cases this
      rw [look_ne hne]
      exact ⟨h1, h2⟩

theorem evalOp0_call {lay : Lay} {σ : List (Nat × SV)} {m : MState} {h : Hint} {op : Op} {f : Nat} {args : List SV} {res : SV} {obs : List Ob} (he : evalOp0 lay σ m h op = some (.call f args res, obs)) :
    obs = [.call (m.foot h.fp) f args res] ∧ touches0 σ h op = h.fp := by
  cases op <;> simp only [evalOp0, reduceCtorEq] at he
  case call c =>
    obtain ⟨callee, ar, ts⟩ := c
    cases callee with
    | value y =>
      simp only at he
      split at he
      · split at he
        · split at he <;> simp only [Option.some.injEq, Prod.mk.injEq, Out.call.injEq, reduceCtorEq, false_and] at he
          obtain ⟨⟨rfl, rfl, rfl⟩, rfl⟩ := he
          exact ⟨rfl, rfl⟩
        · cases he
      · split at he <;> simp only [Option.some.injEq, Prod.mk.injEq, Out.call.injEq, reduceCtorEq, false_and] at he
        obtain ⟨⟨rfl, rfl, rfl⟩, rfl⟩ := he
        exact ⟨rfl, rfl⟩
      · cases he
    | invoke y n => simp at he
    | builtin b =>
      exfalso
      cases b <;> simp only [reduceCtorEq] at he
      all_goals (repeat' (first | (split at he) | (cases he; done)))
  case unOp op t x => exfalso; cases op <;> simp only [reduceCtorEq] at he <;> repeat' (first | (split at he) | (cases he; done))
  case makeFunc fn first cap => exfalso; cases fn <;> simp only [reduceCtorEq] at he <;> repeat' (first | (split at he) | (cases he; done))
  all_goals (exfalso; repeat' (first | (split at he) | (cases he; done)))
theorem evalOp0_callx {lay : Lay} {σ : List (Nat × SV)} {m : MState} {h : Hint} {op : Op} {f : Nat} {args : List SV} {res : SV} {Φ : (Nat → Value) → World → Prop} {obs : List Ob} (he : evalOp0 lay σ m h op = some (.callx f args res Φ, obs)) :
    obs = [.callx (m.foot h.fp) h.g f args res Φ] ∧ touches0 σ h op = h.fp := by
  cases op <;> simp only [evalOp0, reduceCtorEq] at he
  case call c =>
    obtain ⟨callee, ar, ts⟩ := c
    cases callee with
    | value y =>
      simp only at he
      split at he
      · split at he
        · split at he <;> simp only [Option.some.injEq, Prod.mk.injEq, Out.callx.injEq, reduceCtorEq, false_and] at he
          obtain ⟨⟨rfl, rfl, rfl, rfl⟩, rfl⟩ := he
          exact ⟨rfl, rfl⟩
        · cases he
      · split at he <;> simp only [Option.some.injEq, Prod.mk.injEq, Out.callx.injEq, reduceCtorEq, false_and] at he
        obtain ⟨⟨rfl, rfl, rfl, rfl⟩, rfl⟩ := he
        exact ⟨rfl, rfl⟩
      · cases he
    | invoke y n => simp at he
    | builtin b =>
      exfalso
      cases b <;> simp only [reduceCtorEq] at he
      all_goals (repeat' (first | (split at he) | (cases he; done)))
  case unOp op t x => exfalso; cases op <;> simp only [reduceCtorEq] at he <;> repeat' (first | (split at he) | (cases he; done))
  case makeFunc fn first cap => exfalso; cases fn <;> simp only [reduceCtorEq] at he <;> repeat' (first | (split at he) | (cases he; done))
  all_goals (exfalso; repeat' (first | (split at he) | (cases he; done)))

theorem evalOp_call {lay : Lay} {σ : List (Nat × SV)} {m : MState} {h : Hint} {op : Op} {f : Nat} {args : List SV} {res : SV} {obs : List Ob} (he : evalOp lay σ m h op = some (.call f args res, obs)) :
    (∃ rest, obs = .call (m.foot h.fp) f args res :: rest) ∧ touches σ h op = h.fp := by
  rcases evalOp_cases he with ⟨r, xs, e1, e2, (⟨_, e, _⟩ | ⟨Φ, _, e, _⟩)⟩ | ⟨f', args', xs, e1, e2, e, rfl⟩ | ⟨e1, e2, e3⟩
  · cases e
  · cases e
  · cases e
    exact ⟨⟨_, rfl⟩, touches_pf e1⟩
  · obtain ⟨h1, h2⟩ := evalOp0_call e3
    exact ⟨⟨[], h1⟩, (touches_0 e1 e2).trans h2⟩
theorem evalOp_callx {lay : Lay} {σ : List (Nat × SV)} {m : MState} {h : Hint} {op : Op} {f : Nat} {args : List SV} {res : SV} {Φ : (Nat → Value) → World → Prop} {obs : List Ob} (he : evalOp lay σ m h op = some (.callx f args res Φ, obs)) :
    obs = [.callx (m.foot h.fp) h.g f args res Φ] ∧ touches σ h op = h.fp := by
  rcases evalOp_cases he with ⟨r, xs, e1, e2, (⟨_, e, _⟩ | ⟨Φ', _, e, _⟩)⟩ | ⟨f', args', xs, e1, e2, e, rfl⟩ | ⟨e1, e2, e3⟩
  · cases e
  · cases e
  · cases e
  · obtain ⟨h1, h2⟩ := evalOp0_callx e3
    exact ⟨h1, (touches_0 e1 e2).trans h2⟩
theorem evalOp_sto {lay : Lay} {σ : List (Nat × SV)} {m : MState} {h : Hint} {op : Op} {g off : Nat} {t : TypeId} {cs xs : List SV} {obs : List Ob} (he : evalOp lay σ m h op = some (.sto g off t cs xs, obs)) : touches σ h op = touches0 σ h op ∧ evalOp0 lay σ m h op = some (.sto g off t cs xs, obs) := by
  rcases evalOp_cases he with ⟨r, xs, e1, e2, (⟨_, e, _⟩ | ⟨Φ', _, e, _⟩)⟩ | ⟨f', args', xs, e1, e2, e, rfl⟩ | ⟨e1, e2, e3⟩
  · cases e
  · cases e
  · cases e
  · exact ⟨touches_0 e1 e2, e3⟩

theorem shut_sound {lay : Lay} (hl : LayOK P lay) {ops : List Oper} {st : SState} {o : Oper} {h : Hint} {x : TI} {obs : List Ob} (hi : itemShut lay ops st o h = some (x, obs)) (ho : AllOb P X.w0.heap.size obs)
    (S : StF X sf bf st.m.rds st.m.grs E a w) (hop : ∀ t ∈ o.looksAt ops.toArray, sf t = look st.slots t) (hbl : ∀ g ∈ touches st.slots h o.op, bf g = look st.m.blks g)
    (hnew : ∀ g y, x.blk = some (g, y) → x.new = true → bf g = none ∧ (∀ t sv, sf t = some sv → sv.free g = true) ∧ ∀ g' y, bf g' = some y → y.free g = true)
    (hsto : ∀ g y, x.blk = some (g, y) → x.new = false → ∃ t cs cs', y = .blk t cs ∧ bf g = some (.blk t cs') ∧ g ∈ touches st.slots h o.op)
    (hd : ∀ d, o.dst = some d → d < X.n) {K : Act → World → Prop} {Q : Exit → Act → World → Prop}
    (hK : ∀ E' a' w', StF X (putF sf x.dst x.sv) (blkF bf x.blk) st.m.rds st.m.grs E' a' w' → K a' w') :
    if Region.wanted o (yielded ops.toArray a.tmps) then o.wp P a w K Q else K (a.put o.dst undef) w := by
  have hwant : ∀ b, wantB ops st.slots o = some b → Region.wanted o (yielded ops.toArray a.tmps) = b := fun b hb => by
    unfold wantB at hb
    unfold Region.wanted
    cases hg : o.guard with
    | none => rw [hg] at hb; simpa using hb
    | some jw =>
      obtain ⟨j, want⟩ := jw
      rw [hg] at hb
      simp only at hb
      cases hj : ops[j]? with
      | none => rw [hj] at hb; simp at hb
      | some oj =>
        rw [hj] at hb
        simp only at hb
        cases hdj : oj.dst with
        | none => rw [hdj] at hb; simp at hb
        | some d =>
          rw [hdj] at hb
          simp only at hb
          have hj' : ops.toArray[j]? = some oj := by simpa using hj
          have hsd := hop d (guard_looksAt hg hj' hdj)
          split at hb
          · rename_i bb hbb
            rw [hbb] at hsd
            have hs := S.slot d _ hsd
            simp only [SV.val] at hs
            simp only [Option.some.injEq] at hb
            subst hb
            simp only [yielded, hj', Option.bind_some, hdj, hs]
            cases bb <;> cases want <;> rfl
          · cases hb
  have hev : ∀ y ∈ o.op.operands, ∀ sv, opnd st.slots y = some sv → a.eval y = sv.val E := fun y hy sv hsv => by
    cases y with
    | tmp t =>
      simp only [opnd] at hsv
      have := S.slot t sv ((hop t (mem_looksAt hy)).trans hsv)
      simp [Act.eval, this]
    | const v => simp [opnd] at hsv; subst hsv; rfl
    | global g => simp [opnd] at hsv; subst hsv; rfl
    | func f => simp [opnd] at hsv; subst hsv; rfl
  have hkn : Known E w st.m (touches st.slots h o.op) := ⟨fun g hg t cs hgg => S.mem.blk g t cs ((hbl g hg).trans hgg), S.mem.rd, fun k q hq => ⟨_, S.mem.gr k q hq⟩, S.mem.one⟩
  unfold itemShut at hi
  cases hw : wantB ops st.slots o with
  | none => rw [hw] at hi; simp at hi
  | some b =>
    rw [hwant b hw]
    rw [hw] at hi
    cases b with
    | false =>
      simp only [Option.some.injEq, Prod.mk.injEq] at hi
      obtain ⟨rfl, rfl⟩ := hi
      simp only [Bool.false_eq_true, if_false]
      exact hK E _ _ (S.putD hd (.v undef))
    | true =>
      simp only [if_true]
      simp only at hi
      unfold Oper.wp
      cases he : evalOp lay st.slots st.m h o.op with
      | none => rw [he] at hi; simp at hi
      | some r =>
        obtain ⟨out, obs'⟩ := r
        rw [he] at hi
        have hobs' : AllOb P X.w0.heap.size obs' := by
          cases out with
          | val sv => simp only [Option.some.injEq] at hi; unfold castTI at hi; split at hi <;> simp only [Prod.mk.injEq] at hi <;> obtain ⟨_, rfl⟩ := hi <;> first | exact ho | exact ho.2
          | new t cs sv =>
            simp only at hi
            split at hi
            · simp only [Option.some.injEq] at hi; unfold castTI at hi; split at hi <;> simp only [Prod.mk.injEq] at hi <;> obtain ⟨_, rfl⟩ := hi <;> first | exact ho | exact ho.2
            · cases hi
          | sto g off t cs xs => simp only [Option.some.injEq, Prod.mk.injEq] at hi; obtain ⟨_, rfl⟩ := hi; exact ho
          | call f args res => simp only [Option.some.injEq] at hi; unfold castTI at hi; split at hi <;> simp only [Prod.mk.injEq] at hi <;> obtain ⟨_, rfl⟩ := hi <;> first | exact ho | exact ho.2
          | callx f args res Φ =>
            simp only at hi
            split at hi
            · simp only [Option.some.injEq] at hi; unfold castTI at hi; split at hi <;> simp only [Prod.mk.injEq] at hi <;> obtain ⟨_, rfl⟩ := hi <;> first | exact ho | exact ho.2
            · cases hi
          | ext res Φ =>
            simp only at hi
            split at hi
            · simp only [Option.some.injEq] at hi; unfold castTI at hi; split at hi <;> simp only [Prod.mk.injEq] at hi <;> obtain ⟨_, rfl⟩ := hi <;> first | exact ho | exact ho.2
            · cases hi
        have hdo := evalOp_sound (a := a) hl he hev hkn hobs' (fun hp => ⟨_, S.memOf rfl rfl fun g y hg => by
            obtain ⟨h1, h2⟩ := restr_sub h.fp _ _ _ hg
            exact (hbl g (by rw [touches_some hp]; exact h2)).trans h1⟩)
        -- the value that is kept is the value that comes out
        have hcast : ∀ (sv : SV) (blk : Option (Nat × BE)) (nw : Bool), castTI h o.dst sv blk nw obs' = (x, obs) → x.dst = o.dst ∧ x.blk = blk ∧ x.new = nw ∧ ∀ E, sv.val E = x.sv.val E := fun sv blk nw hc => by
          unfold castTI at hc
          split at hc <;> simp only [Prod.mk.injEq] at hc <;> obtain ⟨rfl, rfl⟩ := hc
          · exact ⟨rfl, rfl, rfl, ho.1⟩
          · exact ⟨rfl, rfl, rfl, fun _ => rfl⟩
        cases out with
        | val sv =>
          simp only [Option.some.injEq] at hi
          obtain ⟨e1, e2, e3, e4⟩ := hcast _ _ _ hi
          simp only [DoesOut] at hdo
          rw [hdo]
          simp only [Oper.upon]
          rw [e4 E]
          have := S.putD hd x.sv
          rw [← e1] at this
          have hk := hK E (a.put x.dst (x.sv.val E)) w (by rw [e2]; exact this)
          rwa [e1] at hk
        | new t cs sv =>
          simp only at hi
          split at hi
          · rename_i hf
            simp only [Option.some.injEq] at hi
            obtain ⟨e1, e2, e3, e4⟩ := hcast _ _ _ hi
            obtain ⟨n1, n2, n3⟩ := hnew _ _ e2 e3
            simp only [Bool.and_eq_true] at hf
            have hlt : h.g < 1000 := Nat.lt_of_succ_le (Nat.le_of_ble_eq_true hf.2)
            obtain ⟨v, hv, hvE⟩ := hdo
            rw [hv]
            simp only [Oper.upon]
            have S' := (S.new hlt n1 n2 n3 t cs hf.1.2).putD hd x.sv
            rw [← e4, hvE _ (Env.upd_same _ _ _)] at S'
            have hk := hK _ _ _ (by rw [e2, e1]; exact S')
            exact hk
          · cases hi
        | sto g off t cs xs =>
          simp only [Option.some.injEq, Prod.mk.injEq] at hi
          obtain ⟨rfl, rfl⟩ := hi
          simp only [DoesOut] at hdo
          rw [hdo]
          simp only [Oper.upon]
          obtain ⟨t', c', cs', hy, hb1, hb2⟩ := hsto g _ rfl rfl
          simp only [BE.blk.injEq] at hy
          obtain ⟨rfl, rfl⟩ := hy
          have S' := (S.store hb1 (cs.take off ++ xs ++ cs.drop (off + xs.length))).putD hd (.v undef)
          refine hK E _ _ ?_
          simp only [vals_append, vals_take, vals_drop] at S'
          exact S'
        | call f args res =>
          simp only [Option.some.injEq] at hi
          obtain ⟨e1, e2, e3, e4⟩ := hcast _ _ _ hi
          -- the obligation of the call
          obtain ⟨⟨rest, rfl⟩, ht⟩ := evalOp_call he
          simp only [DoesOut] at hdo
          rw [hdo hobs'.1.1]
          simp only [Oper.upon]
          have hmem : Mem X.w0.heap.size _ (st.m.foot h.fp) E w := S.memOf rfl rfl fun g y hg => by
            obtain ⟨h1, h2⟩ := restr_sub h.fp _ _ _ hg
            exact (hbl g (by rw [ht]; exact h2)).trans h1
          refine (hobs'.1.2 E w _ hmem).mono ?_
          rintro e w' ⟨rfl, hb⟩
          have S' := (S.later hb).putD hd x.sv
          rw [← e4] at S'
          exact hK E _ _ (by rw [e2, e1]; exact S')
        | ext res Φ =>
          simp only at hi
          split at hi
          · rename_i hf
            simp only [Option.some.injEq] at hi
            obtain ⟨e1, e2, e3, e4⟩ := hcast _ _ _ hi
            obtain ⟨n1, n2, n3⟩ := hnew _ _ e2 e3
            simp only [Bool.and_eq_true] at hf
            have hlt : h.g < 1000 := Nat.lt_of_succ_le (Nat.le_of_ble_eq_true hf.2)
            obtain ⟨v, w', hr, hb, h1, hh⟩ := hdo
            rw [hr]
            simp only [Oper.upon]
            have S' := ((S.later hb).letter hlt n1 n2 n3 Φ v h1 (hh.mono fun k hk hR => ⟨fun ho => absurd (S.ltB ho) (by omega), .inl (Nat.le_trans S.size0 hR)⟩)).putD hd x.sv
            rw [← e4] at S'
            exact hK _ _ _ (by rw [e2, e1]; exact S')
          · cases hi
        | callx f args res Φ =>
          simp only at hi
          split at hi
          · rename_i hf
            simp only [Option.some.injEq] at hi
            obtain ⟨e1, e2, e3, e4⟩ := hcast _ _ _ hi
            obtain ⟨n1, n2, n3⟩ := hnew _ _ e2 e3
            simp only [Bool.and_eq_true] at hf
            have hlt : h.g < 1000 := Nat.lt_of_succ_le (Nat.le_of_ble_eq_true hf.2)
            obtain ⟨rfl, ht⟩ := evalOp_callx he
            simp only [DoesOut] at hdo
            rw [hdo hobs'.1.1]
            simp only [Oper.upon]
            have hmem : Mem X.w0.heap.size _ (st.m.foot h.fp) E w := S.memOf rfl rfl fun g y hg => by
              obtain ⟨h1, h2⟩ := restr_sub h.fp _ _ _ hg
              exact (hbl g (by rw [ht]; exact h2)).trans h1
            refine (hobs'.1.2 E w _ hmem).mono ?_
            rintro e w' ⟨v, rfl, hb, h1, hh⟩
            have S' := ((S.later hb).letter hlt n1 n2 n3 Φ v h1 (hh.mono fun k hk hR => by
              rcases hR with hR | hR
              · exact ⟨fun ho => absurd (S.ltB ho) (by omega), .inl (Nat.le_trans S.size0 hR)⟩
              · exact hR)).putD hd x.sv
            rw [← e4] at S'
            exact hK _ _ _ (by rw [e2, e1]; exact S')
          · cases hi

theorem look_projL {d : Nat} {want W : Bool} : ∀ (l : List (Nat × SV)) (t : Nat), look (projL d want W l) t = (look l t).map fun x => (projSV d want W x).1
  | [], t => rfl
  | (k, x) :: r, t => by
    by_cases h : k = t
    · subst h; simp [projL, look_same]
    · simp only [projL]; rw [look_ne h, look_ne h]; exact look_projL r t
theorem projOb_mem {B d t : Nat} {want W : Bool} {σ : List (Nat × SV)} {x : SV} : ∀ {xs : List Operand}, AllOb P B (projOb d want W σ xs) → Operand.tmp t ∈ xs → look σ t = some x → AllOb P B (projSV d want W x).2
  | [], _, h, _ => by cases h
  | y :: r, h, hm, hx => by
    rcases List.mem_cons.1 hm with rfl | hm'
    · simp only [projOb, hx] at h
      exact (AllOb.append h).1
    · clear hm
      cases y with
      | tmp t' => simp only [projOb] at h; exact projOb_mem (AllOb.append h).2 hm' hx
      | _ => exact projOb_mem (xs := r) h hm' hx
theorem whenL_ok {B : Nat} : ∀ {l : List Ob} {W : Bool}, AllOb P B (whenL W l) → W = true → AllOb P B l
  | [], _, _, _ => trivial
  | _ :: _, _, h, hW => ⟨h.1 hW, whenL_ok h.2 hW⟩
theorem wcSV_ok : ∀ {x : SV} {want W : Bool}, wcSV x want = some W → ((match x.val E with | .bool b => some b | _ => none : Option Bool) = some want ↔ W = true)
  | .v v, want, W, h => by
    cases v <;> cases want <;> simp [wcSV] at h <;> subst h <;> simp [SV.val]
  | .gd d w' W' x, want, W, h => by
    simp only [wcSV] at h
    cases hx : wcSV x want with
    | none => rw [hx] at h; simp at h
    | some b =>
      rw [hx] at h
      simp only [Option.some.injEq] at h
      subst h
      have ih := wcSV_ok hx
      cases W' with
      | true => simpa [SV.val] using ih
      | false => simp [SV.val, undef]
  | .own _ _, _, _, h => by simp [wcSV] at h
  | .sl _, _, _, h => by simp [wcSV] at h
  | .at _ _ _, _, _, h => by simp [wcSV] at h
  | .gr _, _, _, h => by simp [wcSV] at h
  | .row _ _ _ _, _, _, h => by simp [wcSV] at h
  | .sub _ _ _, _, _, h => by simp [wcSV] at h
  | .ltr _ _, _, _, h => by simp [wcSV] at h
  | .agg _, _, _, h => by simp [wcSV] at h
  | .tup _, _, _, h => by simp [wcSV] at h
  | .fn _ _, _, _, h => by simp [wcSV] at h

theorem item_sound {lay : Lay} (hl : LayOK P lay) {ops : List Oper} {st : SState} {o : Oper} {h : Hint} {x : TI} {obs : List Ob} (hi : itemOf lay ops st o h = some (x, obs)) (ho : AllOb P X.w0.heap.size obs)
    (S : StF X sf bf st.m.rds st.m.grs E a w) (hop : ∀ t ∈ o.looksAt ops.toArray, sf t = look st.slots t) (hbl : ∀ g ∈ touches (effS ops st o h) h o.op, bf g = look st.m.blks g)
    (hnew : ∀ g y, x.blk = some (g, y) → x.new = true → bf g = none ∧ (∀ t sv, sf t = some sv → sv.free g = true) ∧ ∀ g' y, bf g' = some y → y.free g = true)
    (hsto : ∀ g y, x.blk = some (g, y) → x.new = false → ∃ t cs cs', y = .blk t cs ∧ bf g = some (.blk t cs') ∧ g ∈ touches (effS ops st o h) h o.op)
    (hd : ∀ d, o.dst = some d → d < X.n) {K : Act → World → Prop} {Q : Exit → Act → World → Prop}
    (hK : ∀ E' a' w', StF X (putF sf x.dst x.sv) (blkF bf x.blk) st.m.rds st.m.grs E' a' w' → K a' w') :
    if Region.wanted o (yielded ops.toArray a.tmps) then o.wp P a w K Q else K (a.put o.dst undef) w := by
  unfold itemOf at hi
  cases hog : h.og with
  | false =>
    rw [hog] at hi
    have e : effS ops st o h = st.slots := by unfold effS; rw [hog]
    rw [e] at hbl hsto
    exact shut_sound hl hi ho S hop hbl hnew hsto hd hK
  | true =>
    rw [hog] at hi
    simp only [itemOpen] at hi
    cases hw : wantO ops st.slots o with
    | none => rw [hw] at hi; simp at hi
    | some dw =>
      obtain ⟨d, want, W⟩ := dw
      rw [hw] at hi
      simp only at hi
      have e : effS ops st o h = projL d want W st.slots := by unfold effS; rw [hog, hw]
      rw [e] at hbl
      -- whether it is wanted
      have hwant : Region.wanted o (yielded ops.toArray a.tmps) = W := by
        unfold wantO at hw
        unfold Region.wanted
        cases hg : o.guard with
        | none => rw [hg] at hw; simp at hw
        | some jw =>
          obtain ⟨j, wt⟩ := jw
          rw [hg] at hw
          simp only at hw
          cases hj : ops[j]? with
          | none => rw [hj] at hw; simp at hw
          | some oj =>
            rw [hj] at hw
            simp only at hw
            cases hdj : oj.dst with
            | none => rw [hdj] at hw; simp at hw
            | some d' =>
              rw [hdj] at hw
              simp only at hw
              have hj' : ops.toArray[j]? = some oj := by simpa using hj
              have hsd := hop d' (guard_looksAt hg hj' hdj)
              cases hx : look st.slots d' with
              | none => rw [hx] at hw; simp at hw
              | some y =>
                rw [hx] at hw hsd
                simp only at hw
                cases hwc : wcSV y wt with
                | none => rw [hwc] at hw; simp at hw
                | some W' =>
                  rw [hwc] at hw
                  simp only [Option.some.injEq, Prod.mk.injEq] at hw
                  obtain ⟨rfl, rfl, rfl⟩ := hw
                  have hs := S.slot d' _ hsd
                  have key := wcSV_ok (E := E) hwc
                  have hy : yielded ops.toArray a.tmps j = (match y.val E with | .bool b => some b | _ => none : Option Bool) := by
                    simp only [yielded, hj', Option.bind_some, hdj, hs]
                    cases y.val E <;> rfl
                  simp only [hy]
                  cases hW : W' with
                  | true => rw [key.2 hW]; simp
                  | false =>
                    rw [beq_eq_false_iff_ne]
                    intro he
                    rw [key.1 he] at hW
                    cases hW
      rw [hwant]
      cases hWW : W with
      | false =>
        -- it is not: the slot is left undefined
        have hx : x.dst = o.dst ∧ x.blk = none ∧ x.sv.val E = undef := by
          split at hi <;> simp only [Option.some.injEq, Prod.mk.injEq, reduceCtorEq] at hi
          · obtain ⟨rfl, rfl⟩ := hi; exact ⟨rfl, rfl, by simp [SV.val, hWW]⟩
          · obtain ⟨rfl, rfl⟩ := hi; exact ⟨rfl, rfl, by simp [SV.val, hWW]⟩
        simp only [Bool.false_eq_true, if_false]
        have S' := S.putD hd x.sv
        rw [hx.2.2] at S'
        exact hK E _ _ (by rw [hx.1, hx.2.1]; exact S')
      | true =>
        simp only [if_true]
        have hev : ∀ y ∈ o.op.operands, AllOb P X.w0.heap.size (projOb d want W st.slots o.op.operands.toList) → ∀ sv, opnd (projL d want W st.slots) y = some sv → a.eval y = sv.val E := fun y hy hpo sv hsv => by
          cases y with
          | tmp t =>
            simp only [opnd] at hsv
            rw [look_projL] at hsv
            cases hx : look st.slots t with
            | none => rw [hx] at hsv; simp at hsv
            | some z =>
              rw [hx] at hsv
              simp only [Option.map_some, Option.some.injEq] at hsv
              have := S.slot t z ((hop t (mem_looksAt hy)).trans hx)
              have hz : z.val E = (projSV d want W z).1.val E := projSV_ok (E := E) (d := d) (want := want) (p := W) (x := z) (by rfl) (projOb_mem hpo (by simpa using hy) hx) hWW
              rw [← hsv, ← hz]
              simp [Act.eval, this]
          | const v => simp [opnd] at hsv; subst hsv; rfl
          | global g => simp [opnd] at hsv; subst hsv; rfl
          | func f => simp [opnd] at hsv; subst hsv; rfl
        have hkn : Known E w st.m (touches (projL d want W st.slots) h o.op) := ⟨fun g hg t cs hgg => S.mem.blk g t cs ((hbl g hg).trans hgg), S.mem.rd, fun k q hq => ⟨_, S.mem.gr k q hq⟩, S.mem.one⟩
        unfold Oper.wp
        cases he : evalOp lay (projL d want W st.slots) st.m h o.op with
        | none => rw [he] at hi; simp at hi
        | some r =>
          obtain ⟨out, obs'⟩ := r
          rw [he] at hi
          have hcast : ∀ (sv : SV), AllOb P X.w0.heap.size (castTI h o.dst sv none false obs').2 → AllOb P X.w0.heap.size obs' ∧ ∀ E, sv.val E = (castTI h o.dst sv none false obs').1.sv.val E := fun sv hc => by
            unfold castTI at hc ⊢
            split at hc
            · exact ⟨hc.2, hc.1⟩
            · exact ⟨hc, fun _ => rfl⟩
          cases out with
          | val sv =>
            simp only [Option.some.injEq, Prod.mk.injEq] at hi
            obtain ⟨rfl, rfl⟩ := hi
            obtain ⟨o1, o2⟩ := AllOb.append ho
            obtain ⟨k1, k2⟩ := hcast sv (whenL_ok o2 hWW)
            have hdo := evalOp_sound (a := a) hl he (fun y hy => hev y hy o1) hkn k1 (fun hp => ⟨_, S.memOf rfl rfl fun g y hg => by
            obtain ⟨h1, h2⟩ := restr_sub h.fp _ _ _ hg
            exact (hbl g (by rw [touches_some hp]; exact h2)).trans h1⟩)
            simp only [DoesOut] at hdo
            rw [hdo]
            simp only [Oper.upon]
            have S' := S.putD hd (.gd d want W (castTI h o.dst sv none false obs').1.sv)
            simp only [SV.val, hWW, cond_true] at S'
            rw [← k2] at S'
            exact hK E _ _ (by simpa [SV.val, hWW, blkF] using S')
          | new t cs sv => simp at hi
          | sto g off t cs xs => simp at hi
          | callx f args res Φ => simp at hi
          | ext res Φ => simp at hi
          | call f args res =>
            simp only [Option.some.injEq, Prod.mk.injEq] at hi
            obtain ⟨rfl, rfl⟩ := hi
            obtain ⟨o1, o2⟩ := AllOb.append ho
            obtain ⟨k1, k2⟩ := hcast res (whenL_ok o2 hWW)
            have hdo := evalOp_sound (a := a) hl he (fun y hy => hev y hy o1) hkn k1 (fun hp => ⟨_, S.memOf rfl rfl fun g y hg => by
            obtain ⟨h1, h2⟩ := restr_sub h.fp _ _ _ hg
            exact (hbl g (by rw [touches_some hp]; exact h2)).trans h1⟩)
            obtain ⟨⟨rest, rfl⟩, ht⟩ := evalOp_call he
            simp only [DoesOut] at hdo
            rw [hdo k1.1.1]
            simp only [Oper.upon]
            have hmem : Mem X.w0.heap.size _ (st.m.foot h.fp) E w := S.memOf rfl rfl fun g y hg => by
              obtain ⟨h1, h2⟩ := restr_sub h.fp _ _ _ hg
              exact (hbl g (by rw [ht]; exact h2)).trans h1
            refine (k1.1.2 E w _ hmem).mono ?_
            rintro e w' ⟨rfl, hb⟩
            have S' := (S.later hb).putD hd (.gd d want W (castTI h o.dst res none false (Ob.call (st.m.foot h.fp) f args res :: rest)).1.sv)
            simp only [SV.val, hWW, cond_true] at S'
            rw [← k2] at S'
            exact hK E _ _ (by simpa [SV.val, hWW, blkF] using S')
end Go.Proofs.Ytlcccomdijdkaaa
