/- Into a call and out of it; tests; where ways meet. -/
import Derived.Test.YtlcccomdijdkaaaSyK
namespace Go.Proofs.Ytlcccomdijdkaaa
open Go.RowKit

variable {P : Program} {X : Ctx} {E : Env} {a : Act} {w : World} {st : SState}

def argSlots : Nat → List SV → List (Nat × SV)
  | _, [] => []
  | i, x :: r => (i, x) :: argSlots (i + 1) r
theorem argSlots_look : ∀ (xs : List SV) (i t : Nat) (sv : SV), look (argSlots i xs) t = some sv → i ≤ t ∧ xs[t - i]? = some sv
  | [], i, t, sv, h => by simp [argSlots, look] at h
  | x :: r, i, t, sv, h => by
    rcases look_cases h with ⟨rfl, rfl⟩ | ⟨hne, h2⟩
    · exact ⟨Nat.le_refl _, by simp⟩
    · obtain ⟨h3, h4⟩ := argSlots_look r (i + 1) t sv h2
      refine ⟨by omega, ?_⟩
      rw [show t - i = (t - (i + 1)) + 1 by omega, List.getElem?_cons_succ]
      exact h4

/-- a slice of such elements lies there -/
def SlAt (w : World) (A : Option Addr) (len n : Nat) (get : Nat → List Value) : Prop :=
  0 < len → ∃ b off, A = some ⟨b, off, none⟩ ∧ b < w.heap.size ∧ ∀ i, i < len → ∀ j v, (get i)[j]? = some v → w.cell? ⟨b, off + (i * n + j), none⟩ = some v
theorem SlAt.later {w w' : World} {A : Option Addr} {len n : Nat} {get : Nat → List Value} (h : SlAt w A len n get) (hb : Below w.heap.size w w') : SlAt w' A len n get := fun h0 => by
  obtain ⟨b, off, h1, h2, h3⟩ := h h0
  exact ⟨b, off, h1, Nat.lt_of_lt_of_le h2 hb.size, fun i hi j v hv => (World.cell?_of_block (hb.block b h2)).trans (h3 i hi j v hv)⟩
theorem SlAt.rd {w : World} {A : Option Addr} {len n : Nat} {get : Nat → List Value} (h : SlAt w A len n get) {cap : Nat} (hc : len ≤ cap) : RdAt w ⟨len, n, get⟩ ⟨A, len, cap, n⟩ := ⟨rfl, rfl, hc, h⟩
def envOf (sls : List (Nat × RS)) (xs : List (Nat × (Nat → Value)) := []) : Env := { ρ := fun _ => 0, sl := fun s => (look sls s).getD ⟨none, 0, 0, 0⟩, gr := fun _ => undef, x := fun g => (look xs g).getD (fun _ => .bool false) }
def AllOne : List (Nat × (Nat → Value)) → Prop
  | [] => True
  | (_, v) :: r => (∀ i, (v i).oneCell' = true) ∧ AllOne r
theorem AllOne.get : ∀ {l : List (Nat × (Nat → Value))}, AllOne l → ∀ g v, look l g = some v → ∀ i, (v i).oneCell' = true
  | [], _, g, v, h => by simp [look] at h
  | (k, x) :: r, h, g, v, hv => by
    rcases look_cases hv with ⟨rfl, rfl⟩ | ⟨_, h2⟩
    · exact h.1
    · exact AllOne.get h.2 g v h2
theorem envOf_one {sls : List (Nat × RS)} {xs : List (Nat × (Nat → Value))} (h : AllOne xs) : ∀ g i, ((envOf sls xs).x g i).oneCell' = true := fun g i => by
  simp only [envOf]
  cases hx : look xs g with
  | none => rfl
  | some v => exact h.get g v hx i
def AllRd (w : World) (E : Env) : List (Nat × Q) → Prop
  | [] => True
  | (s, q) :: r => RdAt w q (E.sl s) ∧ AllRd w E r
theorem AllRd.get {w : World} {E : Env} : ∀ {l : List (Nat × Q)}, AllRd w E l → ∀ s q, look l s = some q → RdAt w q (E.sl s)
  | [], _, s, q, h => by simp [look] at h
  | (k, x) :: r, h, s, q, hq => by
    rcases look_cases hq with ⟨rfl, rfl⟩ | ⟨_, h2⟩
    · exact h.1
    · exact AllRd.get h.2 s q h2
/-- the blocks of the slices are among R -/
def InR (R : Nat → Prop) (A : Option Addr) (len : Nat) : Prop := ∀ b off, 0 < len → A = some ⟨b, off, none⟩ → R b
def AllRR (R : Nat → Prop) (E : Env) : List (Nat × Q) → Prop
  | [] => True
  | (s, q) :: r => InR R (E.sl s).A q.len ∧ AllRR R E r
theorem AllRR.get {R : Nat → Prop} {E : Env} : ∀ {l : List (Nat × Q)}, AllRR R E l → ∀ s q, look l s = some q → InR R (E.sl s).A q.len
  | [], _, s, q, h => by simp [look] at h
  | (k, x) :: r, h, s, q, hq => by
    rcases look_cases hq with ⟨rfl, rfl⟩ | ⟨_, h2⟩
    · exact h.1
    · exact AllRR.get h.2 s q h2
abbrev allR : Nat → Prop := fun _ => True
theorem AllRR.all (E : Env) : ∀ l : List (Nat × Q), AllRR allR E l
  | [] => trivial
  | (_, _) :: r => ⟨fun _ _ _ _ => trivial, AllRR.all E r⟩
def AllHeld (R : Nat → Prop) (w : World) (E : Env) : List (Nat × BE) → Prop
  | [] => True
  | (g, .held Φ) :: r => HeldIn R w (Φ (E.x g)) ∧ AllHeld R w E r
  | (_, .blk _ _) :: _ => False
theorem AllHeld.get {R : Nat → Prop} {w : World} {E : Env} : ∀ {l : List (Nat × BE)}, AllHeld R w E l → ∀ g y, look l g = some y → ∃ Φ, y = .held Φ ∧ HeldIn R w (Φ (E.x g))
  | [], _, g, y, h => by simp [look] at h
  | (k, .held Φ) :: r, h, g, y, hy => by
    rcases look_cases hy with ⟨rfl, rfl⟩ | ⟨_, h2⟩
    · exact ⟨Φ, rfl, h.1⟩
    · exact AllHeld.get h.2 g y h2
abbrev noC : Nat → Prop := fun _ => False
abbrev noρ : Nat → Nat := fun _ => 0

/-- a call begins: with the blocks that it has caught, and with letters -/
theorem sym_enter_at {f : FuncId} {fn : Func} {c : Code} {W : World} {T : Ending → World → Prop} (hf : P.funcs[f]? = some fn) (hb : fn.body = some c) (svs : List SV) (rds : List (Nat × Q)) (blks : List (Nat × BE)) (E : Env) (C R : Nat → Prop) (ρ0 : Nat → Nat) (hpin : ∀ g, 1000 ≤ g → E.ρ g = ρ0 g) (hn : Nat.ble svs.length fn.ntmps = true)
    (hone : ∀ g i, (E.x g i).oneCell' = true) (hblk : ∀ g t cs, look blks g = some (.blk t cs) → Blk W (E.ρ g) t (SV.vals E cs).toArray ∧ C (E.ρ g)) (hinj : ∀ g g' t t' cs cs', look blks g = some (.blk t cs) → look blks g' = some (.blk t' cs') → E.ρ g = E.ρ g' → g = g')
    (hh : ∀ g Φ, look blks g = some (.held Φ) → HeldIn (fun k => R k ∧ ∀ g t cs, look blks g = some (.blk t cs) → E.ρ g ≠ k) W (Φ (E.x g))) (hr : AllRd W E rds) (hrR : ∀ s q b off, look rds s = some q → 0 < q.len → (E.sl s).A = some ⟨b, off, none⟩ → R b ∧ ∀ g t cs, look blks g = some (.blk t cs) → E.ρ g ≠ b)
    (h : ∀ a, St ⟨W, C, fn.ntmps, [], R, ρ0, E.sl, E.x⟩ ⟨argSlots 0 svs, ⟨blks, rds, []⟩⟩ E a W → c.wp P (bodyPost P fn T) a W) : Calls P f (SV.vals E svs).toArray W T := by
  have hn := Nat.le_of_ble_eq_true hn
  have hap : ∀ k, (R k ∧ ∀ g t cs, look blks g = some (.blk t cs) → E.ρ g ≠ k) → Apart W.heap.size R (look blks) [] E k := fun k hk => ⟨fun ho => by
    rcases ho with ⟨g, t, cs, hx, e⟩ | ⟨j, q, hq, _⟩
    · exact hk.2 g t cs hx e
    · simp [look] at hq, .inr hk.1⟩
  refine calls_of_wp hf hb (h _ ⟨fun t sv ht => ?_, by simp [vals_length]; omega, rfl, Kept.refl _ _, ⟨fun g t cs hg => (hblk g t cs hg).1, hr.get, fun k q hq => by simp [look] at hq, hone⟩,
    ⟨fun g t cs hx => .inr (hblk g t cs hx).2, hinj, ⟨fun k k' x y b hx => by simp [look] at hx, fun k x b hx => by simp [look] at hx⟩, fun g k t cs y _ hy => by simp [look] at hy, fun s q b off hq hl hA => hap b (hrR s q b off hq hl hA), fun g Φ hΦ => (hh g Φ hΦ).mono fun k _ => hap k⟩, hpin, fun _ _ => rfl, fun _ _ => rfl⟩)
  obtain ⟨_, h2⟩ := argSlots_look svs 0 t sv ht
  rw [Nat.sub_zero] at h2
  have hlt : t < svs.length := (List.getElem?_eq_some_iff.1 h2).1
  rw [Array.getElem?_append_left (by simp [vals_length, hlt])]
  simp [vals_get, h2]
theorem sym_enter {f : FuncId} {fn : Func} {c : Code} {W : World} {T : Ending → World → Prop} (hf : P.funcs[f]? = some fn) (hb : fn.body = some c) (svs : List SV) (rds : List (Nat × Q)) (blks : List (Nat × BE)) (E : Env) (C R : Nat → Prop) (ρ0 : Nat → Nat) (hpin : ∀ g, 1000 ≤ g → E.ρ g = ρ0 g) (hn : Nat.ble svs.length fn.ntmps = true)
    (hone : ∀ g i, (E.x g i).oneCell' = true) (hblk : ∀ g t cs, look blks g = some (.blk t cs) → Blk W (E.ρ g) t (SV.vals E cs).toArray ∧ C (E.ρ g)) (hinj : ∀ g g' t t' cs cs', look blks g = some (.blk t cs) → look blks g' = some (.blk t' cs') → E.ρ g = E.ρ g' → g = g')
    (hh : ∀ g Φ, look blks g = some (.held Φ) → HeldIn (fun k => R k ∧ ∀ g t cs, look blks g = some (.blk t cs) → E.ρ g ≠ k) W (Φ (E.x g))) (hr : AllRd W E rds) (hrR : ∀ s q b off, look rds s = some q → 0 < q.len → (E.sl s).A = some ⟨b, off, none⟩ → R b ∧ ∀ g t cs, look blks g = some (.blk t cs) → E.ρ g ≠ b)
    (h : ∀ a w, St ⟨W, C, fn.ntmps, [], R, ρ0, E.sl, E.x⟩ ⟨argSlots 0 svs, ⟨blks, rds, []⟩⟩ E a w → c.wp P (bodyPost P fn T) a w) : Calls P f (SV.vals E svs).toArray W T :=
  sym_enter_at hf hb svs rds blks E C R ρ0 hpin hn hone hblk hinj hh hr hrR fun a S => h a W S
theorem sym_call {f : FuncId} {fn : Func} {c : Code} {W : World} {T : Ending → World → Prop} (hf : P.funcs[f]? = some fn) (hb : fn.body = some c) (svs : List SV) (rds : List (Nat × Q)) (blks : List (Nat × BE)) (E : Env) (R : Nat → Prop) (hpin : ∀ g, 1000 ≤ g → E.ρ g = 0) (hn : Nat.ble svs.length fn.ntmps = true)
    (hone : ∀ g i, (E.x g i).oneCell' = true) (hr : AllRd W E rds) (hrR : AllRR R E rds) (hh : AllHeld R W E blks) (h : ∀ E' a w, St ⟨W, noC, fn.ntmps, [], R, noρ, E.sl, E.x⟩ ⟨argSlots 0 svs, ⟨blks, rds, []⟩⟩ E' a w → c.wp P (bodyPost P fn T) a w) : Calls P f (SV.vals E svs).toArray W T := by
  have hno : ∀ g t cs, look blks g ≠ some (.blk t cs) := fun g t cs hx => by
    obtain ⟨Φ, e, _⟩ := hh.get g _ hx
    cases e
  refine sym_enter hf hb svs rds blks E noC R noρ hpin hn hone (fun g t cs hx => absurd hx (hno g t cs)) (fun g _ t _ cs _ hx => absurd hx (hno g t cs)) (fun g Φ hx => ?_) hr (fun s q b off hq hl hA => ⟨hrR.get s q hq b off hl hA, fun g t cs hx => absurd hx (hno g t cs)⟩) (h E)
  obtain ⟨Φ', e, h2⟩ := hh.get g _ hx
  cases e
  exact h2.mono fun k _ hk => ⟨hk, fun g t cs hx => absurd hx (hno g t cs)⟩

/-! out of a call -/
def resSV (lay : Lay) (st : SState) : List ResultVar → Option (List SV)
  | [] => some []
  | .tmp t :: r => match look st.slots t, resSV lay st r with
    | some x, some xs => some (x :: xs)
    | _, _ => none
  | .cell a t :: r => match look lay t, look st.slots a, resSV lay st r with
    | some d, some (.own g off), some xs => match look st.m.blks g with
      | some (.blk _ cs) => match Nat.ble (off + d.n) cs.length && (isAggT d.k || Nat.beq d.n 1) with
        | true => match partSV cs off d.n (isAggT d.k) with
          | some v => some (v :: xs)
          | none => none
        | false => none
      | _ => none
    | _, _, _ => none
def retSV : List SV → SV
  | [x] => x
  | xs => .tup xs
def oneRes (a : Act) : ResultVar → Sem Value
  | .tmp t => pure (a.tmps.getD t undef)
  | .cell x t => do loadVar t (← asAddr (a.tmps.getD x undef))
theorem res_one {lay : Lay} (hl : LayOK P lay) (S : St X st E a w) : ∀ (rs : List ResultVar) (xs : List SV), resSV lay st rs = some xs →
    (rs.mapM (oneRes a)).run P w = .ok (SV.vals E xs) w
  | [], xs, h => by simp [resSV] at h; subst h; simp [SV.vals, List.mapM_nil, Sem.run_pure]
  | .tmp t :: r, xs, h => by
    simp only [resSV] at h
    cases h1 : look st.slots t with
    | none => rw [h1] at h; simp at h
    | some x =>
      cases h2 : resSV lay st r with
      | none => rw [h1, h2] at h; simp at h
      | some ys =>
        rw [h1, h2] at h
        simp only [Option.some.injEq] at h
        subst h
        have hs := S.slot t x h1
        rw [List.mapM_cons]
        simp only [oneRes, Sem.run_bind, Sem.run_pure, Result.andThen_ok, res_one hl S r ys h2, SV.vals]
        simp [hs]
  | .cell x t :: r, xs, h => by
    simp only [resSV] at h
    split at h
    · rename_i d g off ys hd hx hr
      split at h
      · rename_i ty cs hg
        split at h
        · rename_i hb
          split at h
          · rename_i v hv
            simp only [Option.some.injEq] at h
            subst h
            simp only [Bool.and_eq_true, Nat.ble_eq, Bool.or_eq_true, Nat.beq_eq] at hb
            have hs := S.slot x _ hx
            have hB := S.mem.blk g _ _ hg
            have hld := run_load_cells (P := P) (E := E) (w := w) (b := E.ρ g) (ao := off) hl hd (fun j y hy => by
              rw [hB.cell]
              have : cs[off + j]? = some y := by
                rw [List.getElem?_take] at hy
                split at hy
                · rwa [List.getElem?_drop] at hy
                · cases hy
              simp [vals_get, this]) hb.1 hb.2 hv
            unfold Instr.loadAt at hld
            simp only [Instr.sureAddr, Sem.run_bind, Sem.run_pure, Result.andThen_ok] at hld
            have hgd : a.tmps.getD x undef = .pointer (some ⟨E.ρ g, off, none⟩) := by simp [hs, SV.val]
            rw [List.mapM_cons]
            simp only [oneRes, Sem.run_bind, hgd, asAddr, Sem.run_pure, Result.andThen_ok, hld, res_one hl S r ys hr, SV.vals]
          · cases h
        · cases h
      · cases h
    · cases h
theorem sym_ret {lay : Lay} (hl : LayOK P lay) {fn : Func} {R : Ending → World → Prop} (xs : List SV) (hr : resSV lay st fn.results.toList = some xs) (hD : X.D = []) (S : St X st E a w) (h : R (.returned ((retSV xs).val E)) w) : bodyPost P fn R .ret a w := by
  refine ⟨S.defers.trans hD, (retSV xs).val E, ?_, h⟩
  have h1 := res_one (P := P) hl S _ _ hr
  have h2 : (fn.results.mapM (oneRes a)).run P w = .ok (SV.vals E xs).toArray w := by
    rw [Array.mapM_eq_mapM_toList]
    show ((fn.results.toList.mapM (oneRes a)).bind fun l => Sem.pure l.toArray).run P w = _
    have := Sem.run_bind (P := P) (w := w) (fn.results.toList.mapM (oneRes a)) (fun l => (Sem.pure l.toArray : Sem (Array Value)))
    refine this.trans ?_
    rw [h1]
    rfl
  have h3 : (results fn a.tmps) = (fn.results.mapM (oneRes a) >>= fun vs => (pure (if h : vs.size = 1 then vs[0] else .tuple vs) : Sem Value)) := by
    unfold results
    congr 1
  rw [h3, Sem.run_bind, h2]
  match xs with
  | [] => simp [SV.vals, retSV, SV.val, Sem.run_pure]
  | [x] => simp [SV.vals, retSV, Sem.run_pure]
  | x :: y :: r => simp [SV.vals, retSV, SV.val, Sem.run_pure]
theorem St.below (S : St X st E a w) (hC : X.C = noC) : Below X.w0.heap.size X.w0 w := S.kept.below (Nat.le_refl _) (fun k _ h => by rw [hC] at h; exact h)

/-! code -/
theorem sym_seq {lay : Lay} (hl : LayOK P lay) (hm : P.follows .mixedOrders = true) {id : Nat} {ops : List Oper} {draw : Bool} {rest : Code} (hs : List (Nat × Hint)) (ks gs : List Nat) (st' : SState) (obs : List Ob) {Q : Exit → Act → World → Prop} (S : St X st E a w) (hn : dstB X.n ops = true)
    (hev : evalR lay ops hs ks gs st = some (st', obs)) (hdr : (!draw || orderB lay ops hs st) = true) (ho : AllOb P X.w0.heap.size obs) (k : ∀ E' a' w', St X st' E' a' w' → rest.wp P Q a' w') : (Code.seq (Code.region id ops.toArray draw) rest).wp P Q a w :=
  wp_seq (sym_region hl hm hs ks gs st' obs hn hev hdr ho S k)
/-- a test, whose ways don't meet again -/
theorem sym_if {c : Operand} {x y rest : Code} {b : Bool} {Q : Exit → Act → World → Prop} (S : St X st E a w) (hc : opnd st.slots c = some (.v (.bool b))) (ht : b = true → x.wp P (Exit.then (rest.wp P Q) Q) a w) (hf : b = false → y.wp P (Exit.then (rest.wp P Q) Q) a w) : (Code.seq (Code.cond c x y) rest).wp P Q a w := by
  refine wp_seq (wp_cond_split ?_ ht hf)
  cases c with
  | tmp t => simp only [opnd] at hc; have := S.slot t _ hc; simp [Act.eval, this, SV.val]
  | const v => simp [opnd] at hc; subst hc; rfl
  | global g => simp [opnd] at hc
  | func f => simp [opnd] at hc
/-- a test, whose ways meet again -/
theorem sym_meet {c : Operand} {x y rest : Code} {b : Bool} (st2 : SState) {Q : Exit → Act → World → Prop} (S : St X st E a w) (hc : opnd st.slots c = some (.v (.bool b))) (ht : b = true → x.wp P (Exit.then (fun a' w' => ∃ E', St X st2 E' a' w') Q) a w) (hf : b = false → y.wp P (Exit.then (fun a' w' => ∃ E', St X st2 E' a' w') Q) a w)
    (k : ∀ E' a' w', St X st2 E' a' w' → rest.wp P Q a' w') : (Code.seq (Code.cond c x y) rest).wp P Q a w := by
  have h := sym_if (P := P) (x := x) (y := y) (rest := .skip) (Q := Exit.then (fun a' w' => ∃ E', St X st2 E' a' w') Q) S hc (fun hb => wp_mono (ht hb) (fun e a w h => by cases e <;> first | exact wp_skip h | exact h)) (fun hb => wp_mono (hf hb) (fun e a w h => by cases e <;> first | exact wp_skip h | exact h))
  have h2 : (Code.cond c x y).wp P (Exit.then (fun a' w' => ∃ E', St X st2 E' a' w') Q) a w := by
    refine wp_cond_split ?_ ht hf
    cases c with
    | tmp t => simp only [opnd] at hc; have := S.slot t _ hc; simp [Act.eval, this, SV.val]
    | const v => simp [opnd] at hc; subst hc; rfl
    | global g => simp [opnd] at hc
    | func f => simp [opnd] at hc
  refine wp_seq (wp_mono h2 fun e a w h => ?_)
  cases e with
  | normal => obtain ⟨E', S'⟩ := h; exact k E' a w S'
  | _ => exact h

/-! another spelling of a state -/
def castS (ch : List (Nat × SV)) (σ : List (Nat × SV)) : Option (List Ob) := match ch with
  | [] => some []
  | (t, x) :: r => match look σ t, castS r σ with
    | some y, some obs => some (.eq y x :: obs)
    | _, _ => none
def eqsOb : List SV → List SV → Option (List Ob)
  | [], [] => some []
  | x :: xs, y :: ys => match eqsOb xs ys with
    | some obs => some (.eq x y :: obs)
    | none => none
  | _, _ => none
def castB (ch : List (Nat × BE)) (l : List (Nat × BE)) : Option (List Ob) := match ch with
  | [] => some []
  | (g, .blk t cs) :: r => match look l g, castB r l with
    | some (.blk t' cs'), some obs => match Nat.beq t t', eqsOb cs' cs with
      | true, some o2 => some (o2 ++ obs)
      | _, _ => none
    | _, _ => none
  | (_, .held _) :: _ => none
def castR (chs : List (Nat × SV)) (chb : List (Nat × BE)) (ks gs rs : List Nat) (st : SState) : Option (SState × List Ob) := match castS chs st.slots, castB chb st.m.blks with
  | some o1, some o2 => some (⟨pickL ks (chs ++ st.slots), { st.m with blks := pickL gs (chb ++ st.m.blks), rds := pickL rs st.m.rds }⟩, o1 ++ o2)
  | _, _ => none
theorem look_append {β : Type} : ∀ (l r : List (Nat × β)) (k : Nat) (x : β), look (l ++ r) k = some x → look l k = some x ∨ look r k = some x
  | [], r, k, x, h => .inr h
  | (k', y) :: l, r, k, x, h => by
    rcases look_cases h with ⟨rfl, rfl⟩ | ⟨hne, h2⟩
    · exact .inl (look_same _ _ _)
    · rw [look_ne hne]; exact look_append l r k x h2
theorem castS_ok {B : Nat} {σ : List (Nat × SV)} : ∀ {ch : List (Nat × SV)} {obs : List Ob}, castS ch σ = some obs → AllOb P B obs → ∀ t x, look ch t = some x → ∃ y, look σ t = some y ∧ ∀ E, y.val E = x.val E
  | [], _, _, _, t, x, h => by simp [look] at h
  | (t', x') :: r, obs, h, ho, t, x, hx => by
    simp only [castS] at h
    split at h
    · rename_i y o2 h1 h2
      simp only [Option.some.injEq] at h
      subst h
      rcases look_cases hx with ⟨rfl, rfl⟩ | ⟨_, h3⟩
      · exact ⟨y, h1, ho.1⟩
      · exact castS_ok h2 ho.2 t x h3
    · cases h
theorem eqsOb_ok {B : Nat} : ∀ {xs ys : List SV} {obs : List Ob}, eqsOb xs ys = some obs → AllOb P B obs → ∀ E, SV.vals E xs = SV.vals E ys
  | [], [], _, _, _, E => rfl
  | x :: xs, y :: ys, obs, h, ho, E => by
    simp only [eqsOb] at h
    split at h
    · rename_i o2 h1
      simp only [Option.some.injEq] at h
      subst h
      simp only [SV.vals, ho.1 E, eqsOb_ok h1 ho.2 E]
    · cases h
  | [], _ :: _, _, h, _, _ => by simp [eqsOb] at h
  | _ :: _, [], _, h, _, _ => by simp [eqsOb] at h
theorem castB_ok {B : Nat} {l : List (Nat × BE)} : ∀ {ch : List (Nat × BE)} {obs : List Ob}, castB ch l = some obs → AllOb P B obs → ∀ g y, look ch g = some y → ∃ t cs cs', y = .blk t cs ∧ look l g = some (.blk t cs') ∧ ∀ E, SV.vals E cs' = SV.vals E cs
  | [], _, _, _, g, y, h => by simp [look] at h
  | (g', .held _) :: r, obs, h, ho, g, y, hx => by simp [castB] at h
  | (g', .blk t' c') :: r, obs, h, ho, g, y, hx => by
    simp only [castB] at h
    split at h
    · rename_i t2 c2 o2 h1 h2
      split at h
      · rename_i o3 h3 h4
        simp only [Option.some.injEq] at h
        subst h
        obtain ⟨p1, p2⟩ := AllOb.append ho
        rcases look_cases hx with ⟨rfl, rfl⟩ | ⟨_, h5⟩
        · have := Nat.eq_of_beq_eq_true h3
          subst this
          exact ⟨_, _, c2, rfl, h1, eqsOb_ok h4 p1⟩
        · exact castB_ok h2 p2 g y h5
      · cases h
    · cases h
theorem St.cast (chs : List (Nat × SV)) (chb : List (Nat × BE)) (ks gs rs : List Nat) (st2 : SState) (obs : List Ob) (h : castR chs chb ks gs rs st = some (st2, obs)) (ho : AllOb P X.w0.heap.size obs) (S : St X st E a w) : St X st2 E a w := by
  unfold castR at h
  split at h
  · rename_i o1 o2 h1 h2
    simp only [Option.some.injEq, Prod.mk.injEq] at h
    obtain ⟨rfl, rfl⟩ := h
    obtain ⟨p1, p2⟩ := AllOb.append ho
    have hb : ∀ g t cs, look (pickL gs (chb ++ st.m.blks)) g = some (.blk t cs) → ∃ cs', look st.m.blks g = some (.blk t cs') ∧ SV.vals E cs' = SV.vals E cs := fun g t cs hy => by
      rcases look_append _ _ _ _ (pickL_sub _ _ _ _ hy) with h3 | h3
      · obtain ⟨t1, c1, cs', e, k1, k2⟩ := castB_ok h2 p2 g _ h3
        simp only [BE.blk.injEq] at e
        obtain ⟨rfl, rfl⟩ := e
        exact ⟨cs', k1, k2 E⟩
      · exact ⟨cs, h3, rfl⟩
    have hd : ∀ g Φ, look (pickL gs (chb ++ st.m.blks)) g = some (.held Φ) → look st.m.blks g = some (.held Φ) := fun g Φ hy => by
      rcases look_append _ _ _ _ (pickL_sub _ _ _ _ hy) with h3 | h3
      · obtain ⟨t1, c1, cs', e, _⟩ := castB_ok h2 p2 g _ h3
        cases e
      · exact h3
    have ho : ∀ k, OwnB (look (pickL gs (chb ++ st.m.blks))) st.m.grs E k → OwnB (look st.m.blks) st.m.grs E k := by
      rintro k (⟨g, t, cs, hx, e⟩ | hk)
      · obtain ⟨c', k1, _⟩ := hb g t cs hx; exact .inl ⟨g, t, c', k1, e⟩
      · exact .inr hk
    have hap : ∀ k, Apart X.w0.heap.size X.R (look st.m.blks) st.m.grs E k → Apart X.w0.heap.size X.R (look (pickL gs (chb ++ st.m.blks))) st.m.grs E k := fun k hk => ⟨fun h => hk.1 (ho k h), hk.2⟩
    refine ⟨fun t sv ht => ?_, S.size, S.defers, S.kept, ⟨fun g t cs hg => ?_, fun s q hq => S.mem.rd s q (pickL_sub _ _ _ _ hq), S.mem.gr, S.mem.one⟩,
      ⟨fun g t cs hg => ?_, fun g g' t t' cs cs' hx hy => ?_, S.sep.ginj, fun g k t cs y hx hy => ?_, fun s q b off hq hl hA => hap b (S.sep.rd s q b off (pickL_sub _ _ _ _ hq) hl hA), fun g Φ hΦ => (S.sep.held g Φ (hd g Φ hΦ)).mono fun k _ => hap k⟩, S.pin⟩
    · rcases look_append _ _ _ _ (pickL_sub _ _ _ _ ht) with h3 | h3
      · obtain ⟨y, k1, k2⟩ := castS_ok h1 p1 t sv h3
        rw [← k2 E]
        exact S.slot t y k1
      · exact S.slot t sv h3
    · obtain ⟨c', k1, k2⟩ := hb g t cs hg
      rw [← k2]
      exact S.mem.blk g _ _ k1
    · obtain ⟨c', k1, _⟩ := hb g t cs hg; exact S.sep.base g _ _ k1
    · obtain ⟨c1, k1, _⟩ := hb g _ _ hx; obtain ⟨c2, k2, _⟩ := hb g' _ _ hy; exact S.sep.inj g g' _ _ _ _ k1 k2
    · obtain ⟨c1, k1, _⟩ := hb g _ _ hx; exact S.sep.mix g k _ _ y k1 hy
  · cases h
/-- what a call may use of the memory at hand -/
theorem Mem.sl {B : Nat} {R : Nat → Prop} {m : MState} {s : Nat} {q : Q} (h : Mem B R m E w) (hq : look m.rds s = some q) : ∃ A cap, E.sl s = ⟨A, q.len, cap, q.n⟩ ∧ q.len ≤ cap ∧ SlAt w A q.len q.n q.get ∧ InR R A q.len := by
  obtain ⟨h1, h2, hc, h3⟩ := h.rd s q hq
  refine ⟨(E.sl s).A, (E.sl s).cap, ?_, hc, h3, fun b off hl hA => h.rdR s q b off hq hl hA⟩
  rw [← h1, ← h2]
end Go.Proofs.Ytlcccomdijdkaaa
