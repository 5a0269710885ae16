/- What steps of malting do to what is known, over whole numbers. -/
import Derived.WalkKit
namespace Go.Proofs.Ytdadpfgcjffclaa
open Go.RowKit

/-- what is known of grain, and of what was taken up and lost -/
structure Gr where
  d1 : Int
  d2 : Int
  w1 : Int
  w2 : Int
  p1 : Int
  p2 : Int
  t1 : Int
  t2 : Int
  g1 : Int
  g2 : Int
  r1 : Int
  r2 : Int
  s1 : Int
  s2 : Int
def Gr.cells (g : Gr) : Array Value := #[.int .i64 g.d1, .int .i64 g.d2, .int .i64 g.w1, .int .i64 g.w2, .int .i64 g.p1, .int .i64 g.p2, .int .i64 g.t1, .int .i64 g.t2, .int .i64 g.g1, .int .i64 g.g2, .int .i64 g.r1, .int .i64 g.r2, .int .i64 g.s1, .int .i64 g.s2]
def Gr.zero : Gr := ⟨0, 0, 0, 0, 0, 0, 0, 0, 0, 0, 0, 0, 0, 0⟩

/-- the greatest amount: 2^40 -/
def SpOk (a b m : Int) : Prop := 0 ≤ a ∧ a ≤ b ∧ b ≤ m
structure Gr.Ok (q : Gr) : Prop where
  d : SpOk q.d1 q.d2 1099511627776
  w : SpOk q.w1 q.w2 1099511627776
  p : SpOk q.p1 q.p2 1099511627776
  t : SpOk q.t1 q.t2 1099511627776
  g : SpOk q.g1 q.g2 1099511627776
  r : SpOk q.r1 q.r2 1099511627776
  s : SpOk q.s1 q.s2 1099511627776

/-- a quotient, rounded up -/
def upQ (a b : Int) : Int := (a + b - 1) / b

def sproutG (g : Gr) (x y : Int) : Option Gr :=
  if upQ (x * g.d1) 10000 ≤ y * g.d2 / 10000 ∧ upQ ((10000 - y) * g.d1) 10000 ≤ (10000 - x) * g.d2 / 10000 then
    some { g with d1 := upQ ((10000 - y) * g.d1) 10000, d2 := (10000 - x) * g.d2 / 10000, g1 := g.g1 + upQ (x * g.d1) 10000, g2 := g.g2 + y * g.d2 / 10000 }
  else none
def kilnG (g : Gr) (x y : Int) : Option Gr :=
  if upQ (x * g.d1) 10000 ≤ min (y * g.d2 / 10000) g.w2 then
    some { g with w1 := upQ (x * g.d1) 10000, w2 := min (y * g.d2 / 10000) g.w2, s1 := g.s1 + max (g.w1 - min (y * g.d2 / 10000) g.w2) 0, s2 := g.s2 + (g.w2 - upQ (x * g.d1) 10000) }
  else none
def peatG (g : Gr) (x y : Int) : Option Gr :=
  if g.p1 + upQ (x * g.d1) 1000 ≤ g.p2 + y * g.d2 / 1000 then
    some { g with p1 := g.p1 + upQ (x * g.d1) 1000, p2 := g.p2 + y * g.d2 / 1000 }
  else none
def sieveG (g : Gr) (x y : Int) : Option Gr :=
  if x ≤ min y g.d2 then
    some { g with d1 := max (g.d1 - y) 0, d2 := g.d2 - x, r1 := g.r1 + x, r2 := g.r2 + min y g.d2 }
  else none
def weighG (g : Gr) (x y : Int) : Option Gr :=
  if max g.d1 (x - g.w2) ≤ min g.d2 (y - g.w1) ∧ max g.w1 (x - g.d2) ≤ min g.w2 (y - g.d1) then
    some { g with d1 := max g.d1 (x - g.w2), d2 := min g.d2 (y - g.w1), w1 := max g.w1 (x - g.d2), w2 := min g.w2 (y - g.d1) }
  else none
def steepG (g : Gr) (x y : Int) : Option Gr :=
  some { g with w1 := g.w1 + x, w2 := g.w2 + y, t1 := g.t1 + x, t2 := g.t2 + y }
/-- what a step of kind k, with a number from x to y, leaves -/
def doG (g : Gr) (k x y : Int) : Option Gr :=
  if k = 0 then steepG g x y else if k = 1 then sproutG g x y else if k = 2 then kilnG g x y else if k = 3 then peatG g x y else if k = 4 then sieveG g x y else weighG g x y

/-- the greatest number that a step of kind k may have -/
def mostOf (k : Int) : Int := if k = 1 ∨ k = 2 then 10000 else if k = 3 then 1048576 else 1099511627776
def StepOk (k x y : Int) : Prop := 0 ≤ k ∧ k ≤ 5 ∧ SpOk x y (mostOf k)
instance (a b m : Int) : Decidable (SpOk a b m) := by unfold SpOk; infer_instance
instance (k x y : Int) : Decidable (StepOk k x y) := by unfold StepOk; infer_instance
def tooG (g : Gr) : Bool :=
  decide (1099511627776 < g.d2) || decide (1099511627776 < g.w2) || decide (1099511627776 < g.p2) || decide (1099511627776 < g.t2) || decide (1099511627776 < g.g2) || decide (1099511627776 < g.r2) || decide (1099511627776 < g.s2)
/-- the step behind a step, or its error -/
def nextG (g : Gr) (k x y : Int) : Gr × Int :=
  if StepOk k x y then
    match doG g k x y with
    | none => (Gr.zero, 4)
    | some h => if tooG h then (Gr.zero, 12) else (h, 0)
  else (Gr.zero, 1)

/-- the spans behind a step are spans, and none is below 0 -/
structure Gr.Wide (q : Gr) : Prop where
  d : SpOk q.d1 q.d2 4611686018427387904
  w : SpOk q.w1 q.w2 4611686018427387904
  p : SpOk q.p1 q.p2 4611686018427387904
  t : SpOk q.t1 q.t2 4611686018427387904
  g : SpOk q.g1 q.g2 4611686018427387904
  r : SpOk q.r1 q.r2 4611686018427387904
  s : SpOk q.s1 q.s2 4611686018427387904

theorem upQ_bd {a b : Int} (hb : 0 < b) (ha : 0 ≤ a) : 0 ≤ upQ a b ∧ upQ a b ≤ a := by
  unfold upQ
  refine ⟨Int.ediv_nonneg (by omega) (by omega), ?_⟩
  have : (a + b - 1) / b < a + 1 := by
    rw [Int.ediv_lt_iff_lt_mul hb]
    have h1 : a * 1 ≤ a * b := Int.mul_le_mul_of_nonneg_left (by omega) ha
    have h2 : (a + 1) * b = a * b + b := by rw [Int.add_mul]; omega
    omega
  omega
theorem prod_bd {a b A B : Int} (ha : 0 ≤ a) (hA : a ≤ A) (hb : 0 ≤ b) (hB : b ≤ B) : 0 ≤ a * b ∧ a * b ≤ A * B :=
  ⟨Int.mul_nonneg ha hb, Int.mul_le_mul hA hB hb (Int.le_trans ha hA)⟩

theorem doG_wide {g h : Gr} {k x y : Int} (hg : g.Ok) (hs : StepOk k x y) (he : doG g k x y = some h) : h.Wide := by
  obtain ⟨⟨d0, d1, d2⟩, ⟨w0, w1, w2⟩, ⟨p0, p1, p2⟩, ⟨t0, t1, t2⟩, ⟨g0, g1, g2⟩, ⟨r0, r1, r2⟩, ⟨s0, s1, s2⟩⟩ := hg
  obtain ⟨k0, k1, x0, x1, x2⟩ := hs
  unfold mostOf at x2
  unfold doG at he
  split at he
  · subst k
    simp only [steepG, Option.some.injEq] at he
    subst he
    constructor <;> (refine ⟨?_, ?_, ?_⟩ <;> simp only <;> simp at x2 <;> omega)
  split at he
  · subst k
    simp at x2
    have e1 := prod_bd x0 (show x ≤ 10000 by omega) d0 (show g.d1 ≤ 1099511627776 by omega)
    have e2 := prod_bd (show 0 ≤ y by omega) x2 (show 0 ≤ g.d2 by omega) d2
    have e3 := prod_bd (show 0 ≤ 10000 - y by omega) (show 10000 - y ≤ 10000 by omega) d0 (show g.d1 ≤ 1099511627776 by omega)
    have e4 := prod_bd (show 0 ≤ 10000 - x by omega) (show 10000 - x ≤ 10000 by omega) (show 0 ≤ g.d2 by omega) d2
    have u1 := upQ_bd (b := 10000) (by omega) e1.1
    have u3 := upQ_bd (b := 10000) (by omega) e3.1
    unfold sproutG at he
    split at he
    · simp only [Option.some.injEq] at he
      subst he
      constructor <;> (refine ⟨?_, ?_, ?_⟩ <;> simp only <;> omega)
    · cases he
  split at he
  · subst k
    simp at x2
    have e1 := prod_bd x0 (show x ≤ 10000 by omega) d0 (show g.d1 ≤ 1099511627776 by omega)
    have e2 := prod_bd (show 0 ≤ y by omega) x2 (show 0 ≤ g.d2 by omega) d2
    have u1 := upQ_bd (b := 10000) (by omega) e1.1
    unfold kilnG at he
    split at he
    · simp only [Option.some.injEq] at he
      subst he
      constructor <;> (refine ⟨?_, ?_, ?_⟩ <;> simp only <;> omega)
    · cases he
  split at he
  · subst k
    simp at x2
    have e1 := prod_bd x0 (show x ≤ 1048576 by omega) d0 (show g.d1 ≤ 1099511627776 by omega)
    have e2 := prod_bd (show 0 ≤ y by omega) x2 (show 0 ≤ g.d2 by omega) d2
    have u1 := upQ_bd (b := 1000) (by omega) e1.1
    unfold peatG at he
    split at he
    · simp only [Option.some.injEq] at he
      subst he
      constructor <;> (refine ⟨?_, ?_, ?_⟩ <;> simp only <;> omega)
    · cases he
  split at he
  · subst k
    simp at x2
    unfold sieveG at he
    split at he
    · simp only [Option.some.injEq] at he
      subst he
      constructor <;> (refine ⟨?_, ?_, ?_⟩ <;> simp only <;> omega)
    · cases he
  · have hk : k = 5 := by omega
    subst k
    simp at x2
    unfold weighG at he
    split at he
    · simp only [Option.some.injEq] at he
      subst he
      constructor <;> (refine ⟨?_, ?_, ?_⟩ <;> simp only <;> omega)
    · cases he

theorem nextG_ok {g : Gr} {k x y : Int} (hg : g.Ok) (he : (nextG g k x y).2 = 0) : (nextG g k x y).1.Ok ∧ StepOk k x y ∧ doG g k x y = some (nextG g k x y).1 := by
  unfold nextG at he ⊢
  split at he
  · rename_i hs
    rw [if_pos hs]
    cases hd : doG g k x y with
    | none => simp [hd] at he
    | some h =>
      have hw := doG_wide hg hs hd
      simp only [hd] at he ⊢
      by_cases ht : tooG h = true
      · simp [ht] at he
      · have ht' : tooG h = false := by simpa using ht
        simp only [ht', Bool.false_eq_true, if_false]
        refine ⟨?_, hs, trivial⟩
        simp only [tooG, Bool.or_eq_false_iff, decide_eq_false_iff_not] at ht'
        obtain ⟨⟨⟨⟨⟨⟨c1, c2⟩, c3⟩, c4⟩, c5⟩, c6⟩, c7⟩ := ht'
        obtain ⟨⟨d0, d1, d2⟩, ⟨w0, w1, w2⟩, ⟨p0, p1, p2⟩, ⟨t0, t1, t2⟩, ⟨g0, g1, g2⟩, ⟨r0, r1, r2⟩, ⟨s0, s1, s2⟩⟩ := hw
        exact ⟨⟨d0, d1, by omega⟩, ⟨w0, w1, by omega⟩, ⟨p0, p1, by omega⟩, ⟨t0, t1, by omega⟩, ⟨g0, g1, by omega⟩, ⟨r0, r1, by omega⟩, ⟨s0, s1, by omega⟩⟩
  · simp at he

/-- a step, with its kind and its number -/
structure StepV where
  k : Int
  a : Int
  b : Int
/-- steps, one after the other: what is known behind them, how many there are, and the error -/
def playG (g : Gr) : List StepV → Nat → Gr × Nat × Int
  | [], i => (g, i, 0)
  | s :: l, i => if (nextG g s.k s.a s.b).2 = 0 then playG (nextG g s.k s.a s.b).1 l (i + 1) else (Gr.zero, i, (nextG g s.k s.a s.b).2)
end Go.Proofs.Ytdadpfgcjffclaa
