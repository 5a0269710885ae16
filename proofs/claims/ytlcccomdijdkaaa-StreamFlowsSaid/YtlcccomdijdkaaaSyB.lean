/- What one operation yields, reckoned over symbolic values: the types' table, the evaluator. -/
import Derived.Test.YtlcccomdijdkaaaSyA
namespace Go.Proofs.Ytlcccomdijdkaaa
open Go.RowKit

inductive Ty where
  | one
  | int (k : IntKind)
  | str (fs : List (Nat × Nat × Bool))
  | sli (e : TypeId) (es : Nat)
  | arr (len es : Nat) (ag : Bool)
  | boo
  deriving DecidableEq
structure TyD where
  k : Ty
  n : Nat
  z : List Value
  eq : Bool := false
  by' : Nat := 0
abbrev Lay := List (Nat × TyD)
def aggB (P : Program) (t : TypeId) : Bool := match P.underlying t with
  | some (.struct _) => true
  | some (.array _ _) => true
  | _ => false
def knownB (P : Program) (t : TypeId) : Bool := (P.info? t).isSome && (P.underlying t).isSome
def shapeB (P : Program) (t : TypeId) : Option Ty := match P.underlying t with
  | some (.struct fs) => if fs.toList.all (fun f => knownB P f.type) then some (.str (fs.toList.map fun f => (f.offset, P.cellsOf f.type, aggB P f.type))) else none
  | some (.slice e) => if knownB P e then some (.sli e (P.cellsOf e)) else none
  | some (.array n e) => if knownB P e then some (.arr n (P.cellsOf e) (aggB P e)) else none
  | some (.int k) => some (.int k)
  | some .bool => some .boo
  | some _ => some .one
  | none => none
def eqL : List Int → List Int → Bool
  | [], [] => true
  | [a], [b] => a == b
  | a :: as, b :: bs => (a == b) && eqL as bs
  | _, _ => false
structure TyOK (P : Program) (t : TypeId) (d : TyD) : Prop where
  shape : shapeB P t = some d.k
  info : (P.info? t).map (fun i => (i.size, i.zero.map fun v => v.cells.toList)) = some (d.n, some d.z)
  bytes : P.bytesOf t = d.by'
  zlen : d.z.length = d.n
  /-- two structs of integers are compared cell by cell -/
  eq : d.eq = true → ∀ (xs ys : List Int) (w : World), xs.length = d.n → ys.length = d.n →
    (Op.equal t (.agg (xs.map (Value.int .i64)).toArray) (.agg (ys.map (Value.int .i64)).toArray)).run P w = .ok (eqL xs ys) w ∧ P.eqGuardType P.depth t = false
def LayOK (P : Program) (lay : Lay) : Prop := ∀ t d, look lay t = some d → TyOK P t d
theorem LayOK.nil (P : Program) : LayOK P [] := fun t d h => by simp [look] at h
theorem LayOK.cons {P : Program} {t : Nat} {d : TyD} {r : Lay} (h : TyOK P t d) (hr : LayOK P r) : LayOK P ((t, d) :: r) := fun t' d' h' => by
  rcases look_cases h' with ⟨rfl, rfl⟩ | ⟨_, h2⟩
  · exact h
  · exact hr _ _ h2

def isAggT : Ty → Bool
  | .str _ => true
  | .arr _ _ _ => true
  | _ => false
section
variable {P : Program} {t : TypeId} {d : TyD}
theorem TyOK.size (h : TyOK P t d) : P.cellsOf t = d.n ∧ ∃ i, P.info? t = some i ∧ i.size = d.n ∧ ∃ z, i.zero = some z ∧ z.cells.toList = d.z := by
  have h1 := h.info
  cases hi : P.info? t with
  | none => rw [hi] at h1; simp at h1
  | some i =>
    rw [hi] at h1
    simp only [Option.map_some, Option.some.injEq, Prod.mk.injEq] at h1
    obtain ⟨h2, h3⟩ := h1
    cases hz : i.zero with
    | none => rw [hz] at h3; simp at h3
    | some z =>
      rw [hz] at h3
      exact ⟨by simp [Program.cellsOf, hi, h2], i, rfl, h2, z, hz, by simpa using h3⟩
theorem TyOK.run_size (h : TyOK P t d) (w : World) : (sizeOf t).run P w = .ok d.n w := by
  obtain ⟨_, i, hi, hs, _⟩ := h.size
  simp [sizeOf, typeInfo, program, Sem.run, hi, hs, go_sem, Result.andThen]
theorem TyOK.run_zero (h : TyOK P t d) (w : World) : ∃ z, (zeroValue t).run P w = .ok z w ∧ z.cells.toList = d.z := by
  obtain ⟨_, i, hi, hs, z, hz, hc⟩ := h.size
  exact ⟨z, by simp [zeroValue, typeInfo, program, Sem.run, hi, hz, go_sem, Result.andThen], hc⟩
theorem TyOK.under (h : TyOK P t d) : ∃ u, P.underlying t = some u ∧ (match d.k with
    | .one => (match u with | .struct _ => False | .array _ _ => False | .slice _ => False | _ => True)
    | .int k => u = .int k
    | .str fs => ∃ f, u = .struct f ∧ (∀ x ∈ f.toList, knownB P x.type = true) ∧ fs = f.toList.map fun f => (f.offset, P.cellsOf f.type, aggB P f.type)
    | .sli e es => u = .slice e ∧ knownB P e = true ∧ es = P.cellsOf e
    | .arr n es ag => ∃ e, u = .array n e ∧ knownB P e = true ∧ es = P.cellsOf e ∧ ag = aggB P e
    | .boo => u = .bool) := by
  have h1 := h.shape
  unfold shapeB at h1
  cases hu : P.underlying t with
  | none => rw [hu] at h1; simp at h1
  | some u =>
    rw [hu] at h1
    refine ⟨u, rfl, ?_⟩
    cases u
    case struct fs =>
      simp only at h1
      by_cases hk : fs.toList.all (fun f => knownB P f.type) = true
      · rw [if_pos hk] at h1
        simp only [Option.some.injEq] at h1
        rw [← h1]
        exact ⟨_, rfl, fun x hx => List.all_eq_true.1 hk x hx, rfl⟩
      · rw [if_neg hk] at h1; cases h1
    case slice e =>
      simp only at h1
      by_cases hk : knownB P e = true
      · rw [if_pos hk] at h1
        simp only [Option.some.injEq] at h1
        rw [← h1]
        exact ⟨rfl, hk, rfl⟩
      · rw [if_neg hk] at h1; cases h1
    case array n e =>
      simp only at h1
      by_cases hk : knownB P e = true
      · rw [if_pos hk] at h1
        simp only [Option.some.injEq] at h1
        rw [← h1]
        exact ⟨_, rfl, hk, rfl, rfl⟩
      · rw [if_neg hk] at h1; cases h1
    all_goals (simp only [Option.some.injEq] at h1; rw [← h1]; try trivial)
theorem knownB.run_size (h : knownB P t = true) (w : World) : (sizeOf t).run P w = .ok (P.cellsOf t) w := by
  simp only [knownB, Bool.and_eq_true, Option.isSome_iff_exists] at h
  obtain ⟨⟨i, hi⟩, _⟩ := h
  simp [sizeOf, typeInfo, program, Sem.run, hi, go_sem, Result.andThen, Program.cellsOf]
theorem run_isAgg (ht : ∃ u, P.underlying t = some u) (w : World) : (isAgg t).run P w = .ok (aggB P t) w := by
  obtain ⟨u, hu⟩ := ht
  unfold isAgg aggB
  simp only [Sem.run_bind, run_underlying hu, Result.andThen_ok, hu]
  cases u <;> rfl
theorem TyOK.run_agg (h : TyOK P t d) (w : World) : (isAgg t).run P w = .ok (isAggT d.k) w := by
  obtain ⟨u, hu, hm⟩ := h.under
  rw [run_isAgg ⟨u, hu⟩, show aggB P t = isAggT d.k from ?_]
  unfold aggB
  rw [hu]
  cases hk : d.k <;> rw [hk] at hm <;> simp only at hm <;> simp only [isAggT]
  · cases u <;> simp_all
  · subst hm; rfl
  · obtain ⟨f, rfl, _⟩ := hm; rfl
  · obtain ⟨rfl, _⟩ := hm; rfl
  · obtain ⟨f, rfl, _⟩ := hm; rfl
  · subst hm; rfl
end

def EntersOK (P : Program) (f : Nat) : Prop := ∀ (args : Array Value) (w : World), (callFunc f args).run P w = .ok (.enter f args) w
/-- what is owed beside the reckoning -/
inductive Ob where
  | rng (k : IntKind) (e : Int)
  | nz (b : Int)
  | idx (i : Int) (n : Nat)
  | sub (a b : Int) (n : Nat)
  | app (q : Q) (b : Nat)
  | eq (x y : SV)
  | imp (p q : Bool)
  | when (p : Bool) (o : Ob)
  | call (m : MState) (f : Nat) (args : List SV) (res : SV)
  | callx (m : MState) (g f : Nat) (args : List SV) (res : SV) (Φ : (Nat → Value) → World → Prop)
  /-- an operation that reads at most, by itself: what it yields; what function it enters; what it makes -/
  | pure (m : MState) (op : Op) (xs : List SV) (res : SV)
  | ent (op : Op) (xs : List SV) (f : Nat) (args : List SV)
  | ext (g : Nat) (op : Op) (xs : List SV) (res : SV) (Φ : (Nat → Value) → World → Prop)
def Env.updX (E : Env) (g : Nat) (v : Nat → Value) : Env := { E with x := fun k => if k = g then v else E.x k }
def Ob.holds (P : Program) (B : Nat) : Ob → Prop
  | .rng k e => k.wrap e = e
  | .nz b => ¬ b = 0
  | .idx i n => 0 ≤ i ∧ i < n
  | .sub a b n => 0 ≤ a ∧ a ≤ b ∧ b ≤ n
  | .app q b => (∀ j, (q.get j).length = q.n ∧ ∀ v ∈ q.get j, v.oneCell' = true) ∧ q.len ≤ 4611686018427387904 ∧ q.len * b ≤ 140737488355328
  | .eq x y => ∀ E, x.val E = y.val E
  | .imp p q => p = true → q = true
  | .when p o => p = true → o.holds P B
  | .call m f args res => EntersOK P f ∧ ∀ E W R, Mem B R m E W → Calls P f (SV.vals E args).toArray W fun e w' => e = .returned (res.val E) ∧ Below W.heap.size W w'
  | .callx m g f args res Φ => EntersOK P f ∧ ∀ E W R, Mem B R m E W → Calls P f (SV.vals E args).toArray W fun e w' => ∃ v, e = .returned (res.val (E.updX g v)) ∧ Below W.heap.size W w' ∧ (∀ i, (v i).oneCell' = true) ∧ HeldIn (fun k => W.heap.size ≤ k ∨ R k) w' (Φ v)
  | .pure m op xs res => ∀ E w R ρ dst ty pos aft gd, Mem B R m E w → op.operands.toList.map ρ = SV.vals E xs → (execOp ρ ⟨dst, op, ty, pos, aft, gd⟩).run P w = .ok (.value (res.val E)) w
  | .ent op xs f args => ∀ E w ρ dst ty pos aft gd, op.operands.toList.map ρ = SV.vals E xs → (execOp ρ ⟨dst, op, ty, pos, aft, gd⟩).run P w = .ok (.enter f (SV.vals E args).toArray) w
  | .ext g op xs res Φ => ∀ E w ρ dst ty pos aft gd, op.operands.toList.map ρ = SV.vals E xs → ∃ v w', (execOp ρ ⟨dst, op, ty, pos, aft, gd⟩).run P w = .ok (.value (res.val (E.updX g v))) w' ∧ Below w.heap.size w w' ∧ (∀ i, (v i).oneCell' = true) ∧ HeldIn (fun k => w.heap.size ≤ k) w' (Φ v)
def AllOb (P : Program) (B : Nat) : List Ob → Prop
  | [] => True
  | o :: r => o.holds P B ∧ AllOb P B r
theorem AllOb.append {P : Program} {B : Nat} : ∀ {l r : List Ob}, AllOb P B (l ++ r) → AllOb P B l ∧ AllOb P B r
  | [], _, h => ⟨trivial, h⟩
  | _ :: _, _, h => ⟨⟨h.1, (AllOb.append h.2).1⟩, (AllOb.append h.2).2⟩

/-- og: the operation's guard is open; pk: it picks by an open slot -/
structure Hint where
  og : Bool := false
  pk : Bool := false
  g : Nat := 0
  w : Bool := false
  cast : Option SV := none
  fp : List Nat := []
  res : SV := .v undef
  hx : Option ((Nat → Value) → World → Prop) := none
  /-- by itself -/
  px : Option SV := none
  pf : Option (Nat × List SV) := none
inductive Out where
  | val (sv : SV)
  | new (ty : TypeId) (cells : List SV) (sv : SV)
  | sto (g : Nat) (off : Nat) (ty : TypeId) (old : List SV) (xs : List SV)
  | call (f : Nat) (args : List SV) (res : SV)
  | callx (f : Nat) (args : List SV) (res : SV) (Φ : (Nat → Value) → World → Prop)
  | ext (res : SV) (Φ : (Nat → Value) → World → Prop)
/-- a copy of a slice that is read -/
def CopyOf (q : Q) : (Nat → Value) → World → Prop := fun v w => ∃ A cap, v 0 = .slice A q.len cap ∧ RdAt w q ⟨A, q.len, cap, q.n⟩

def opnd (σ : List (Nat × SV)) : Operand → Option SV
  | .tmp t => look σ t
  | .const x => some (.v x)
  | .global g => some (.v (.pointer (some ⟨g, 0, none⟩)))
  | .func f => some (.v (.func (.func f) #[] #[]))
def opnds (σ : List (Nat × SV)) : List Operand → Option (List SV)
  | [] => some []
  | x :: xs => match opnd σ x, opnds σ xs with
    | some v, some vs => some (v :: vs)
    | _, _ => none
/-- it is a value of one cell -/
def oneB (m : MState) : SV → Bool
  | .v x => x.oneCell'
  | .agg _ => false
  | .tup _ => false
  | .gr k => (look m.grs k).isSome
  | .gd _ _ _ _ => false
  | _ => true
/-- the cells of a value -/
def cellsSV (m : MState) : SV → Option (List SV)
  | .agg xs => match xs.all (oneB m) with
    | true => some xs
    | false => none
  | x => match oneB m x with
    | true => some [x]
    | false => none
def partSV (xs : List SV) (off n : Nat) : Bool → Option SV
  | true => some (.agg ((xs.drop off).take n))
  | false => xs[off]?
def ar (k : IntKind) (w : Bool) (e : Int) : SV × List Ob := match w with
  | true => (.v (.int k (k.wrap e)), [])
  | false => (.v (.int k e), [.rng k e])
def evInt (op : BinOp) (k : IntKind) (w : Bool) (a b : Int) : Option (SV × List Ob) := match op with
  | .add => some (ar k w (a + b))
  | .sub => some (ar k w (a - b))
  | .mul => some (ar k w (a * b))
  | .quo => some ((ar k w (a.tdiv b)).1, .nz b :: (ar k w (a.tdiv b)).2)
  | .rem => some (.v (.int k (a.tmod b)), [.nz b])
  | .and => some (.v (.int k (bits .and k a b)), [])
  | .or => some (.v (.int k (bits .or k a b)), [])
  | .xor => some (.v (.int k (bits .xor k a b)), [])
  | .andNot => some (.v (.int k (bits .andNot k a b)), [])
  | .eql => some (.v (.bool (a == b)), [])
  | .neq => some (.v (.bool (a != b)), [])
  | .lss => some (.v (.bool (decide (a < b))), [])
  | .leq => some (.v (.bool (decide (a ≤ b))), [])
  | .gtr => some (.v (.bool (decide (b < a))), [])
  | .geq => some (.v (.bool (decide (b ≤ a))), [])
  | _ => none
def intsSV : List SV → Option (List Int)
  | [] => some []
  | .v (.int .i64 a) :: r => match intsSV r with
    | some l => some (a :: l)
    | none => none
  | _ => none
def evBin (lay : Lay) (op : BinOp) (t : TypeId) (w : Bool) (x y : SV) : Option (SV × List Ob) := match x, y with
  | .v (.int k a), .v (.int k' b) => match decide (k = k') with
    | true => evInt op k w a b
    | false => none
  | .agg xs, .agg ys => match op, look lay t, intsSV xs, intsSV ys with
    | .eql, some d, some as, some bs => match d.eq && Nat.beq as.length d.n && Nat.beq bs.length d.n with
      | true => some (.v (.bool (eqL as bs)), [])
      | false => none
    | .neq, some d, some as, some bs => match d.eq && Nat.beq as.length d.n && Nat.beq bs.length d.n with
      | true => some (.v (.bool (!eqL as bs)), [])
      | false => none
    | _, _, _, _ => none
  | .v (.bool a), .v (.bool b) => match op, look lay t with
    | .eql, some d => match decide (d.k = .boo) with
      | true => some (.v (.bool (a == b)), [])
      | false => none
    | .neq, some d => match decide (d.k = .boo) with
      | true => some (.v (.bool (!(a == b))), [])
      | false => none
    | _, _ => none
  | _, _ => none
/-- filling of a struct's zero cells with parts -/
def fillSV (m : MState) (fs : List (Nat × Nat × Bool)) (cells : List SV) : List (Nat × SV) → Option (List SV)
  | [] => some cells
  | (i, v) :: rest => match fs[i]?, cellsSV m v with
    | some (off, size, _), some vs => match Nat.beq vs.length size && Nat.ble (off + size) cells.length with
      | true => fillSV m fs (cells.take off ++ vs ++ cells.drop (off + size)) rest
      | false => none
    | _, _ => none
def opndsP (σ : List (Nat × SV)) : List (Nat × Operand) → Option (List (Nat × SV))
  | [] => some []
  | (i, x) :: xs => match opnd σ x, opndsP σ xs with
    | some v, some vs => some ((i, v) :: vs)
    | _, _ => none
def concatSV (m : MState) (n : Nat) : List (Nat × SV) → Nat → Option (List SV)
  | [], _ => some []
  | (i, v) :: rest, j => match Nat.beq i j, cellsSV m v, concatSV m n rest (j + 1) with
    | true, some vs, some r => match Nat.beq vs.length n with
      | true => some (vs ++ r)
      | false => none
    | _, _, _ => none
def mins2 (a : Int) : List SV → Option Int
  | [] => some a
  | .v (.int .i64 b) :: r => mins2 (min a b) r
  | _ => none
def maxs2 (a : Int) : List SV → Option Int
  | [] => some a
  | .v (.int .i64 b) :: r => maxs2 (max a b) r
  | _ => none
def restr (fp : List Nat) : List (Nat × BE) → List (Nat × BE)
  | [] => []
  | (g, x) :: r => bif fp.any (Nat.beq g) then (g, x) :: restr fp r else restr fp r
def MState.foot (m : MState) (fp : List Nat) : MState := { m with blks := restr fp m.blks }

/-- the value of a slot, if slot d is want; what is owed for that, if p says that it is -/
def projSV (d : Nat) (want p : Bool) : SV → SV × List Ob
  | .gd d' want' W x => match Nat.beq d d', want, want' with
    | true, true, true => (x, [.imp p W])
    | true, false, false => (x, [.imp p W])
    | _, _, _ => (.gd d' want' W x, [])
  | x => (x, [])
def pickSV (d : Nat) (p : Bool) (x y : SV) : Option (SV × List Ob) := match projSV d true p x, projSV d false (!p) y with
  | (.v (.bool u), o1), (.v (.bool v), o2) => some (.v (.bool (cond p u v)), o1 ++ o2)
  | _, _ => none
/-- a bound of a part of a slice -/
def boundSV (σ : List (Nat × SV)) : Option Operand → Int → Option Int
  | none, d => some d
  | some z, _ => match opnd σ z with
    | some (.v (.int .i64 a)) => some a
    | _ => none
def evalOp0 (lay : Lay) (σ : List (Nat × SV)) (m : MState) (h : Hint) : Op → Option (Out × List Ob)
  | .move x => match opnd σ x with | some v => some (.val v, []) | none => none
  | .assign x => match opnd σ x with | some v => some (.val v, []) | none => none
  | .pick c a b => match h.pk with
    | true => match c with
      | .tmp d => match look σ d, opnd σ a, opnd σ b with
        | some (.v (.bool p)), some x, some y => match pickSV d p x y with
          | some (v, obs) => some (.val v, obs)
          | none => none
        | _, _, _ => none
      | _ => none
    | false => match opnd σ c with
      | some (.v (.bool true)) => match opnd σ a with | some v => some (.val v, []) | none => none
      | some (.v (.bool false)) => match opnd σ b with | some v => some (.val v, []) | none => none
      | _ => none
  | .alloc t => match look lay t with
    | some d => some (.new t (d.z.map SV.v) (.own h.g 0), [])
    | none => none
  | .box t x => match opnd σ x with
    | some v => match cellsSV m v with
      | some cs => some (.new t cs (.own h.g 0), [])
      | none => none
    | none => none
  | .build t ps => match look lay t with
    | some ⟨.str fs, _, z, _, _⟩ => match opndsP σ ps.toList with
      | some qs => match fillSV m fs (z.map SV.v) qs with
        | some cs => some (.val (.agg cs), [])
        | none => none
      | none => none
    | _ => none
  | .load t x => match look lay t, opnd σ x with
    | some d, some (.own g off) => match look m.blks g with
      | some (.blk _ cs) => match Nat.ble (off + d.n) cs.length && (isAggT d.k || Nat.beq d.n 1) with
        | true => match partSV cs off d.n (isAggT d.k) with
          | some v => some (.val v, [])
          | none => none
        | false => none
      | _ => none
    | some d, some (.at s i off) => match look m.rds s with
      | some q => match Nat.ble (off + d.n) (q.get i.toNat).length && (isAggT d.k || Nat.beq d.n 1) with
        | true => match partSV ((q.get i.toNat).map SV.v) off d.n (isAggT d.k) with
          | some v => some (.val v, [.idx i q.len])
          | none => none
        | false => none
      | none => none
    | _, _ => none
  | .store t x y => match look lay t, opnd σ x, opnd σ y with
    | some d, some (.own g off), some v => match look m.blks g, cellsSV m v with
      | some (.blk ty cs), some vs => match Nat.beq vs.length d.n && Nat.ble (off + d.n) cs.length with
        | true => some (.sto g off ty cs vs, [])
        | false => none
      | _, _ => none
    | _, _, _ => none
  | .nilCheck x => match opnd σ x with
    | some (.own g off) => some (.val (.own g off), [])
    | some (.at s i off) => match look m.rds s with
      | some q => some (.val (.at s i off), [.idx i q.len])
      | none => none
    | some (.v (.pointer (some a))) => some (.val (.v (.pointer (some a))), [])
    | _ => none
  | .binOp op t x y _ => match opnd σ x, opnd σ y with
    | some a, some b => match evBin lay op t h.w a b with
      | some (v, obs) => some (.val v, obs)
      | none => none
    | _, _ => none
  | .unOp .not _ x => match opnd σ x with
    | some (.v (.bool b)) => some (.val (.v (.bool (!b))), [])
    | _ => none
  | .unOp .neg _ x => match opnd σ x with
    | some (.v (.int k a)) => some (.val (ar k h.w (0 - a)).1, (ar k h.w (0 - a)).2)
    | _ => none
  | .fieldAddr t x f => match look lay t, opnd σ x with
    | some ⟨.str fs, _, _, _, _⟩, some (.own g off) => match fs[f]? with
      | some (fo, fn, _) => match Nat.beq fn 0 with
        | false => some (.val (.own g (off + fo)), [])
        | true => none
      | none => none
    | some ⟨.str fs, _, _, _, _⟩, some (.at s i off) => match fs[f]?, look m.rds s with
      | some (fo, fn, _), some q => match Nat.beq fn 0 with
        | false => some (.val (.at s i (off + fo)), [.idx i q.len])
        | true => none
      | _, _ => none
    | _, _ => none
  | .field t x f => match look lay t, opnd σ x with
    | some ⟨.str fs, _, _, _, _⟩, some (.agg xs) => match fs[f]? with
      | some (fo, fn, ag) => match partSV xs fo fn ag with
        | some v => some (.val v, [])
        | none => none
      | none => none
    | _, _ => none
  | .indexAddr t x i => match look lay t, opnd σ x, opnd σ i with
    | some ⟨.sli _ es, _, _, _, _⟩, some (.sl s), some (.v (.int _ i)) => match look m.rds s with
      | some q => match Nat.beq es q.n with
        | true => some (.val (.at s i 0), [.idx i q.len])
        | false => none
      | none => none
    | _, _, _ => none
  | .extract x i => match opnd σ x with
    | some (.tup xs) => match xs[i]? with
      | some v => some (.val v, [])
      | none => none
    | _ => none
  | .convert src dst x => match look lay src, look lay dst, opnd σ x with
    | some ⟨.int _, _, _, _, _⟩, some ⟨.int k, _, _, _, _⟩, some (.v (.int _ a)) => some (.val (ar k h.w a).1, (ar k h.w a).2)
    | _, _, _ => none
  | .buildSlice t len ps => match Nat.beq len 0 && ps.toList.isEmpty with
    | true => match look lay t with
      | some ⟨.sli e _, _, _, _, _⟩ => some (.new e [] (.row h.g 0 0 0), [])
      | _ => none
    | false => match look lay t, opndsP σ ps.toList with
      | some ⟨.sli e es, _, _, _, _⟩, some qs => match look lay e, concatSV m es qs 0 with
        | some d, some cs => match Nat.beq qs.length len && Nat.beq d.n es && Nat.ble (len * es) 1000000 && !Nat.beq len 0 && !Nat.beq es 0 with
          | true => some (.new e cs (.row h.g 0 len len), [])
          | false => none
        | _, _ => none
      | _, _ => none
  | .slice t x lo hi mx => match mx with
    | none => match look lay t, opnd σ x with
      | some ⟨.sli _ es, _, _, _, _⟩, some (.sl s) => match look m.rds s with
        | some q => match boundSV σ lo 0, boundSV σ hi q.len with
          | some la, some lb => match Nat.beq es q.n with
            | true => some (.val (.sub s la.toNat lb.toNat), [.sub la lb q.len])
            | false => none
          | _, _ => none
        | none => none
      | _, _ => none
    | some _ => none
  | .makeFunc (.func f) first cap => match first.toList, opnds σ cap.toList with
    | [], some cs => some (.val (.fn f cs), [])
    | _, _ => none
  | .call ⟨.builtin .len, args, ts⟩ => match ts.toList, opnds σ args.toList with
    | [t], some [.sl s] => match look lay t, look m.rds s with
      | some ⟨.sli _ _, _, _, _, _⟩, some q => some (.val (.v (.int .i64 q.len)), [])
      | _, _ => none
    | [t], some [.gr k] => match look lay t, look m.grs k with
      | some ⟨.sli _ _, _, _, _, _⟩, some q => some (.val (.v (.int .i64 q.len)), [])
      | _, _ => none
    | [t], some [.v (.slice _ n _)] => match look lay t with
      | some ⟨.sli _ _, _, _, _, _⟩ => some (.val (.v (.int .i64 n)), [])
      | _ => none
    | [t], some [.row _ _ n _] => match look lay t with
      | some ⟨.sli _ _, _, _, _, _⟩ => some (.val (.v (.int .i64 n)), [])
      | _ => none
    | _, _ => none
  | .call ⟨.builtin .append, args, ts⟩ => match ts.toList, opnds σ args.toList with
    | [t, t'], some [.row g 0 0 0, .sl s] => match Nat.beq t t', look lay t, look m.rds s with
      | true, some ⟨.sli e es, _, _, _, _⟩, some q => match look lay e with
        | some d => match Nat.beq es q.n && Nat.beq d.n es with
          | true => some (.ext (.ltr h.g 0) (CopyOf q), [.app q d.by'])
          | false => none
        | none => none
      | _, _, _ => none
    | _, _ => none
  | .call ⟨.builtin .min, args, _⟩ => match opnds σ args.toList with
    | some (.v (.int .i64 a) :: r) => match mins2 a r with
      | some e => some (.val (.v (.int .i64 e)), [])
      | none => none
    | _ => none
  | .call ⟨.builtin .max, args, _⟩ => match opnds σ args.toList with
    | some (.v (.int .i64 a) :: r) => match maxs2 a r with
      | some e => some (.val (.v (.int .i64 e)), [])
      | none => none
    | _ => none
  | .call ⟨.value x, args, _⟩ => match opnd σ x, opnds σ args.toList with
    | some (.v (.func (.func f) first cap)), some vs => match first.toList with
      | [] => match h.hx with
        | none => some (.call f (vs ++ cap.toList.map SV.v) h.res, [.call (m.foot h.fp) f (vs ++ cap.toList.map SV.v) h.res])
        | some Φ => some (.callx f (vs ++ cap.toList.map SV.v) h.res Φ, [.callx (m.foot h.fp) h.g f (vs ++ cap.toList.map SV.v) h.res Φ])
      | _ => none
    | some (.fn f cap), some vs => match h.hx with
      | none => some (.call f (vs ++ cap) h.res, [.call (m.foot h.fp) f (vs ++ cap) h.res])
      | some Φ => some (.callx f (vs ++ cap) h.res Φ, [.callx (m.foot h.fp) h.g f (vs ++ cap) h.res Φ])
    | _, _ => none
  | _ => none
def evalOp (lay : Lay) (σ : List (Nat × SV)) (m : MState) (h : Hint) (op : Op) : Option (Out × List Ob) := match h.px with
  | some res => match opnds σ op.operands.toList with
    | some xs => match h.hx with
      | none => some (.val res, [.pure (m.foot h.fp) op xs res])
      | some Φ => some (.ext res Φ, [.ext h.g op xs res Φ])
    | none => none
  | none => match h.pf with
    | some (f, args) => match opnds σ op.operands.toList with
      | some xs => some (.call f args h.res, [.call (m.foot h.fp) f args h.res, .ent op xs f args])
      | none => none
    | none => evalOp0 lay σ m h op
end Go.Proofs.Ytlcccomdijdkaaa
