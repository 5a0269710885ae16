/- foremost takes the least, or the greatest, of the fractions that an iterator hands on. -/
import Derived.Test.YtcghafdemklnnaaCorners
namespace Go.Proofs.Ytcghafdemklnnaa
open Go.RowKit Go.Sort Go.Shelf
attribute [local go_sem] Oper.semAt_some

set_option maxHeartbeats 1000000 in
theorem more_any (a b c d : Int) (w : World) (ha : -4611686018427387904 ≤ a) (ha' : a ≤ 4611686018427387904) (hb : 0 < b) (hb' : b ≤ 2147483648)
    (hc : -4611686018427387904 ≤ c) (hc' : c ≤ 4611686018427387904) (hd : 0 < d) (hd' : d ≤ 2147483648) :
    Calls Try.prog 59 #[.agg #[.int .i64 a, .int .i64 b], .agg #[.int .i64 c, .int .i64 d]] w fun e w' => e = .returned (.bool (decide (c * b < a * d))) ∧ Below w.heap.size w w' := by
  go_enter Try.func59, Try.ntmps59
  go_wp2_with fail
  refine (less_any c d a b _ hc hc' hd hd' ha ha' hb hb').mono ?_
  rintro e w1 ⟨rfl, hb1⟩
  go_wp2
  go_ret
  exact ⟨rfl, (((Below.refl _ _).alloc (Nat.le_refl _) _).alloc (by simp) _).trans (hb1.mono (by simp; omega))⟩

def ltF (p q : Int × Int) : Bool := decide (p.1 * q.2 < q.1 * p.2)
def gtF (p q : Int × Int) : Bool := decide (q.1 * p.2 < p.1 * q.2)
def stepF (lt : Int × Int → Int × Int → Bool) (first f : Int × Int) : Int × Int := if first.2 = 0 ∨ lt f first = true then f else first
def bestF (lt : Int × Int → Int × Int → Bool) (l : List (Int × Int)) : Int × Int := l.foldl (stepF lt) (0, 0)
theorem bestF_snoc (lt : Int × Int → Int × Int → Bool) (l : List (Int × Int)) (x : Int × Int) : bestF lt (l ++ [x]) = stepF lt (bestF lt l) x := by simp [bestF]
def FracOk (p : Int × Int) : Prop := -4611686018427387904 ≤ p.1 ∧ p.1 ≤ 4611686018427387904 ∧ 0 < p.2 ∧ p.2 ≤ 2147483648
theorem stepF_ok {lt : Int × Int → Int × Int → Bool} {a b : Int × Int} (ha : a = (0, 0) ∨ FracOk a) (hb : FracOk b) : FracOk (stepF lt a b) := by
  unfold stepF
  split
  · exact hb
  · rename_i h
    rcases ha with rfl | ha
    · simp at h
    · exact ha
theorem bestF_ok {lt : Int × Int → Int × Int → Bool} : ∀ (l : List (Int × Int)), (∀ p ∈ l, FracOk p) → bestF lt l = (0, 0) ∨ FracOk (bestF lt l) := by
  intro l h
  suffices H : ∀ (l : List (Int × Int)) (a : Int × Int), (a = (0, 0) ∨ FracOk a) → (∀ p ∈ l, FracOk p) → (l.foldl (stepF lt) a = (0, 0) ∨ FracOk (l.foldl (stepF lt) a)) from H l _ (.inl rfl) h
  intro l
  induction l with
  | nil => intro a ha _; exact ha
  | cons x l ih => intro a ha hp; exact ih _ (.inr (stepF_ok ha (hp x (by simp)))) (fun p h => hp p (by simp [h]))

set_option maxRecDepth 100000 in
set_option maxHeartbeats 4000000 in
theorem foremost_less (gf : Nat) (lb : Array Value) (xs : List (Int × Int)) (D : Nat → Prop) (w : World) (eg : ∀ args w, (callFunc gf args).run Try.prog w = .ok (.enter gf args) w)
    (hseq : SeqB Fence.wide Try.prog gf lb encF xs D w) (hD : Hid (∀ k, D k → k < w.heap.size)) (hok : Hid (∀ p ∈ xs, FracOk p)) :
    CallsIn Fence.wide 0 Try.prog 57 #[.func (.func gf) #[] lb, .func (.func 56) #[] #[]] w fun e w' => e = .returned (.agg #[.int .i64 (bestF ltF xs).1, .int .i64 (bestF ltF xs).2]) ∧ Below w.heap.size w w' := by
  have hdd : ∀ k : Nat, (Fence.wide.depth.isSome = true → 1 ≤ k) := fun k h => (by cases h)
  refine callsIn_of_wp_marks Try.func57 rfl trivial ?_ rfl
  simp only [Try.ntmps57, List.size_toArray, List.length_cons, List.length_nil, Nat.reduceAdd, Nat.reduceSub, Array.replicate_succ, Array.replicate_zero, List.push_toArray, List.append_toArray, List.nil_append, List.cons_append]
  gi_wp2
  have hz : (((w.alloc (Obj.cells #[Value.func (Fn.func 56) #[] #[]] 89)).alloc (Obj.cells #[Value.int IntKind.i64 0, Value.int IntKind.i64 0] 77)).alloc (Obj.cells #[Value.int IntKind.i64 0, Value.int IntKind.i64 0] 77)).heap.size = w.heap.size + 3 := by simp
  have hB0 : Below w.heap.size w (((w.alloc (Obj.cells #[Value.func (Fn.func 56) #[] #[]] 89)).alloc (Obj.cells #[Value.int IntKind.i64 0, Value.int IntKind.i64 0] 77)).alloc (Obj.cells #[Value.int IntKind.i64 0, Value.int IntKind.i64 0] 77)) := (((Below.refl _ _).alloc (Nat.le_refl _) _).alloc (by simp) _).alloc (by simp; omega) _
  have bA : Blk (((w.alloc (Obj.cells #[Value.func (Fn.func 56) #[] #[]] 89)).alloc (Obj.cells #[Value.int IntKind.i64 0, Value.int IntKind.i64 0] 77)).alloc (Obj.cells #[Value.int IntKind.i64 0, Value.int IntKind.i64 0] 77)) w.heap.size 89 #[.func (.func 56) #[] #[]] := ((Blk.new w _ _).alloc _).alloc _
  have bR : Blk (((w.alloc (Obj.cells #[Value.func (Fn.func 56) #[] #[]] 89)).alloc (Obj.cells #[Value.int IntKind.i64 0, Value.int IntKind.i64 0] 77)).alloc (Obj.cells #[Value.int IntKind.i64 0, Value.int IntKind.i64 0] 77)) (w.heap.size + 1) 77 #[.int .i64 0, .int .i64 0] := by
    have := (Blk.new (w.alloc (Obj.cells #[Value.func (Fn.func 56) #[] #[]] 89)) 77 #[.int .i64 0, .int .i64 0]).alloc (Obj.cells #[Value.int IntKind.i64 0, Value.int IntKind.i64 0] 77)
    rwa [World.size_alloc] at this
  have bF : Blk (((w.alloc (Obj.cells #[Value.func (Fn.func 56) #[] #[]] 89)).alloc (Obj.cells #[Value.int IntKind.i64 0, Value.int IntKind.i64 0] 77)).alloc (Obj.cells #[Value.int IntKind.i64 0, Value.int IntKind.i64 0] 77)) (w.heap.size + 1 + 1) 77 #[.int .i64 0, .int .i64 0] := by
    have := Blk.new ((w.alloc (Obj.cells #[Value.func (Fn.func 56) #[] #[]] 89)).alloc (Obj.cells #[Value.int IntKind.i64 0, Value.int IntKind.i64 0] 77)) 77 #[.int .i64 0, .int .i64 0]
    rwa [World.size_alloc, World.size_alloc] at this
  generalize (((w.alloc (Obj.cells #[Value.func (Fn.func 56) #[] #[]] 89)).alloc (Obj.cells #[Value.int IntKind.i64 0, Value.int IntKind.i64 0] 77)).alloc (Obj.cells #[Value.int IntKind.i64 0, Value.int IntKind.i64 0] 77)) = W0 at hz hB0 bA bR bF ⊢
  refine range_outer (w0 := w) (F := Fence.wide) (gf := gf) (lb := lb) rfl rfl rfl trivial eg hseq hB0 (fun _ => rfl) (fun k => k = w.heap.size + 1 + 1) (fun k hk => by omega) (fun k hk => ⟨by have := hD.out k hk; omega, by have := hD.out k hk; omega⟩)
    (fun pre W' => Blk W' (w.heap.size + 1 + 1) 77 #[.int .i64 (bestF ltF pre).1, .int .i64 (bestF ltF pre).2] ∧ Kept (fun k => k = w.heap.size + 1 + 1) W0 W') (fun _ _ _ => False)
    ?hI (fun _ _ _ _ hs _ => hs) ⟨bF, Kept.refl _ _⟩ ?hround ?hdone (fun _ _ _ _ _ _ _ h _ => h.elim)
  case hI => exact fun s a b hs hb => ⟨hs.1.below hb (by omega), stable_kept (β := Unit) (Nat.le_refl _) () a b hs.2 hb⟩
  case hdone =>
    rintro Dd W' hd1 hd2 ⟨bF1, hk1⟩ hK
    obtain ⟨f0, f1, f2, f3⟩ := bF1.facts2
    have bR1 := bR.kept hk1 (by omega)
    obtain ⟨r0, r1, r2, r3⟩ := bR1.facts2
    have hb1 : Below w.heap.size w W' := hB0.trans (hk1.below (by omega) (fun k hk => by omega))
    gi_wp2
    have hne : Dd ≠ w.heap.size + 1 := by omega
    have hK2 : ((W'.setCell ⟨w.heap.size + 1, 0, none⟩ (.int .i64 (bestF ltF xs).1)).setCell ⟨w.heap.size + 1, 1, none⟩ (.int .i64 (bestF ltF xs).2)).heap[Dd]? = some (.deferred (some [])) := (Below.heap_setCell _ _ _ Dd hne).trans ((Below.heap_setCell _ _ _ Dd hne).trans hK)
    have bR2 : Blk (((W'.setCell ⟨w.heap.size + 1, 0, none⟩ (.int .i64 (bestF ltF xs).1)).setCell ⟨w.heap.size + 1, 1, none⟩ (.int .i64 (bestF ltF xs).2)).putObj Dd (.deferred none)) (w.heap.size + 1) 77 #[.int .i64 (bestF ltF xs).1, .int .i64 (bestF ltF xs).2] :=
      (World.putObj_heap_other hne.symm).trans ((bR1.set_ 0 _).set_ 1 _)
    obtain ⟨q0, q1, _, _⟩ := bR2.facts2
    refine ⟨by simp, .inl ⟨_, _, rfl, run_takeDeferred hK2, ?_⟩⟩
    refine ⟨.agg #[.int .i64 (bestF ltF xs).1, .int .i64 (bestF ltF xs).2], by simp [results, Try.results57, go_sem, q0, q1], rfl, ?_⟩
    exact ((hb1.setCell (by simp) _).setCell (by simp) _).trans (below_putObj _ _ _ (by omega))
  case hround =>
    rintro m l pre ⟨xn, xd⟩ rest W1 K hl1 hl2 hx ⟨bF1, hk1⟩ hK
    have hfr : FracOk (xn, xd) := hok.out _ (by rw [hx]; simp)
    obtain ⟨o1, o2, o3, o4⟩ := hfr
    dsimp only at o1 o2 o3 o4
    have hbest := bestF_ok (lt := ltF) pre (fun p hp => hok.out _ (by rw [hx]; simp [hp]))
    have hsn := Lib.hid (bestF_snoc ltF pre (xn, xd))
    dsimp only [encF]
    gi_wp2
    refine hK _ _ ((Below.refl _ _).alloc (Nat.le_refl _) _) ?_
    clear hK bF1
    intro W2 hz2 hk2 hrec ⟨bF2, hk02⟩
    have bX : Blk W2 W1.heap.size 77 #[.int .i64 xn, .int .i64 xd] := (Blk.new W1 _ _).kept hk2 (by omega)
    have bA2 := bA.kept hk02 (by omega)
    generalize hbb : bestF ltF pre = bb at bF2 hbest
    have hbb' := Lib.hid hbb
    clear hbb hk2 hz2
    obtain ⟨bn, bd⟩ := bb
    dsimp only at bF2
    obtain ⟨f0, f1, f2, f3⟩ := bF2.facts2
    obtain ⟨x0, x1, x2, x3⟩ := bX.facts2
    obtain ⟨a0, a1⟩ := bA2.facts1
    by_cases h0 : bd = 0
    · subst h0
      have hst : Hid (bestF ltF (pre ++ [(xn, xd)]) = (xn, xd)) := Lib.hid (by rw [hsn.out, hbb'.out]; simp [stepF])
      gi_wp2
      refine ⟨fun _ h => (by cases h), ?_⟩
      gi_wp2
      have bF3 := (bF2.set_ 0 (.int .i64 xn)).set_ 1 (.int .i64 xd)
      have hk3 : Kept (fun k => k = w.heap.size + 1 + 1) W2 ((W2.setCell ⟨w.heap.size + 1 + 1, 0, none⟩ (.int .i64 xn)).setCell ⟨w.heap.size + 1 + 1, 1, none⟩ (.int .i64 xd)) := ((Kept.refl (fun k => k = w.heap.size + 1 + 1) W2).setCell (p := ⟨w.heap.size + 1 + 1, 0, none⟩) rfl _).setCell (p := ⟨w.heap.size + 1 + 1, 1, none⟩) rfl _
      exact ⟨hk3, by rw [hst.out]; exact bF3, hk02.trans hk3⟩
    · have hbk : FracOk (bn, bd) := by
        rcases hbest with e | e
        · simp only [Prod.mk.injEq] at e; exact absurd e.2 h0
        · exact e
      obtain ⟨p1, p2, p3, p4⟩ := hbk
      dsimp only at p1 p2 p3 p4
      have h0' : (bd == 0) = false := by simpa using h0
      by_cases hlt : ltF (xn, xd) (bn, bd) = true
      · have hst : Hid (bestF ltF (pre ++ [(xn, xd)]) = (xn, xd)) := Lib.hid (by rw [hsn.out, hbb'.out]; simp [stepF, hlt])
        have hc := less_any xn xd bn bd W2 o1 o2 o3 o4 p1 p2 p3 p4
        have hlt' := hlt
        unfold ltF at hlt
        rw [hlt] at hc
        clear hlt hlt' h0
        gi_wp2_with (refine ⟨trivial, hdd _, ?_⟩; gi_at_call 56; refine (CallsIn.inRound l (callsIn_wide.2 hc)).mono ?_; rintro e w6 ⟨rfl, hb6⟩; obtain ⟨g0, g1, g2, g3⟩ := (bX.below hb6 bX.lt).facts2; obtain ⟨i0, i1, i2, i3⟩ := (bF2.below hb6 bF2.lt).facts2)
        have bF3 := ((bF2.below hb6 bF2.lt).set_ 0 (.int .i64 xn)).set_ 1 (.int .i64 xd)
        have hk3 : Kept (fun k => k = w.heap.size + 1 + 1) W2 ((w6.setCell ⟨w.heap.size + 1 + 1, 0, none⟩ (.int .i64 xn)).setCell ⟨w.heap.size + 1 + 1, 1, none⟩ (.int .i64 xd)) := ((Kept.of_below (C := fun k => k = w.heap.size + 1 + 1) hb6).setCell (p := ⟨w.heap.size + 1 + 1, 0, none⟩) rfl _).setCell (p := ⟨w.heap.size + 1 + 1, 1, none⟩) rfl _
        exact ⟨hk3, by rw [hst.out]; exact bF3, hk02.trans hk3⟩
      · have hst : Hid (bestF ltF (pre ++ [(xn, xd)]) = (bn, bd)) := Lib.hid (by rw [hsn.out, hbb'.out]; simp [stepF, hlt, h0])
        have hc := less_any xn xd bn bd W2 o1 o2 o3 o4 p1 p2 p3 p4
        have hlt' : ltF (xn, xd) (bn, bd) = false := by simpa using hlt
        unfold ltF at hlt'
        rw [hlt'] at hc
        clear hlt hlt' h0
        gi_wp2_with (refine ⟨trivial, hdd _, ?_⟩; gi_at_call 56; refine (CallsIn.inRound l (callsIn_wide.2 hc)).mono ?_; rintro e w6 ⟨rfl, hb6⟩)
        have hk3 : Kept (fun k => k = w.heap.size + 1 + 1) W2 w6 := Kept.of_below hb6
        exact ⟨hk3, by rw [hst.out]; exact bF2.below hb6 bF2.lt, hk02.trans hk3⟩

set_option maxRecDepth 100000 in
set_option maxHeartbeats 4000000 in
theorem foremost_more (gf : Nat) (lb : Array Value) (xs : List (Int × Int)) (D : Nat → Prop) (w : World) (eg : ∀ args w, (callFunc gf args).run Try.prog w = .ok (.enter gf args) w)
    (hseq : SeqB Fence.wide Try.prog gf lb encF xs D w) (hD : Hid (∀ k, D k → k < w.heap.size)) (hok : Hid (∀ p ∈ xs, FracOk p)) :
    CallsIn Fence.wide 0 Try.prog 57 #[.func (.func gf) #[] lb, .func (.func 59) #[] #[]] w fun e w' => e = .returned (.agg #[.int .i64 (bestF gtF xs).1, .int .i64 (bestF gtF xs).2]) ∧ Below w.heap.size w w' := by
  have hdd : ∀ k : Nat, (Fence.wide.depth.isSome = true → 1 ≤ k) := fun k h => (by cases h)
  refine callsIn_of_wp_marks Try.func57 rfl trivial ?_ rfl
  simp only [Try.ntmps57, List.size_toArray, List.length_cons, List.length_nil, Nat.reduceAdd, Nat.reduceSub, Array.replicate_succ, Array.replicate_zero, List.push_toArray, List.append_toArray, List.nil_append, List.cons_append]
  gi_wp2
  have hz : (((w.alloc (Obj.cells #[Value.func (Fn.func 59) #[] #[]] 89)).alloc (Obj.cells #[Value.int IntKind.i64 0, Value.int IntKind.i64 0] 77)).alloc (Obj.cells #[Value.int IntKind.i64 0, Value.int IntKind.i64 0] 77)).heap.size = w.heap.size + 3 := by simp
  have hB0 : Below w.heap.size w (((w.alloc (Obj.cells #[Value.func (Fn.func 59) #[] #[]] 89)).alloc (Obj.cells #[Value.int IntKind.i64 0, Value.int IntKind.i64 0] 77)).alloc (Obj.cells #[Value.int IntKind.i64 0, Value.int IntKind.i64 0] 77)) := (((Below.refl _ _).alloc (Nat.le_refl _) _).alloc (by simp) _).alloc (by simp; omega) _
  have bA : Blk (((w.alloc (Obj.cells #[Value.func (Fn.func 59) #[] #[]] 89)).alloc (Obj.cells #[Value.int IntKind.i64 0, Value.int IntKind.i64 0] 77)).alloc (Obj.cells #[Value.int IntKind.i64 0, Value.int IntKind.i64 0] 77)) w.heap.size 89 #[.func (.func 59) #[] #[]] := ((Blk.new w _ _).alloc _).alloc _
  have bR : Blk (((w.alloc (Obj.cells #[Value.func (Fn.func 59) #[] #[]] 89)).alloc (Obj.cells #[Value.int IntKind.i64 0, Value.int IntKind.i64 0] 77)).alloc (Obj.cells #[Value.int IntKind.i64 0, Value.int IntKind.i64 0] 77)) (w.heap.size + 1) 77 #[.int .i64 0, .int .i64 0] := by
    have := (Blk.new (w.alloc (Obj.cells #[Value.func (Fn.func 59) #[] #[]] 89)) 77 #[.int .i64 0, .int .i64 0]).alloc (Obj.cells #[Value.int IntKind.i64 0, Value.int IntKind.i64 0] 77)
    rwa [World.size_alloc] at this
  have bF : Blk (((w.alloc (Obj.cells #[Value.func (Fn.func 59) #[] #[]] 89)).alloc (Obj.cells #[Value.int IntKind.i64 0, Value.int IntKind.i64 0] 77)).alloc (Obj.cells #[Value.int IntKind.i64 0, Value.int IntKind.i64 0] 77)) (w.heap.size + 1 + 1) 77 #[.int .i64 0, .int .i64 0] := by
    have := Blk.new ((w.alloc (Obj.cells #[Value.func (Fn.func 59) #[] #[]] 89)).alloc (Obj.cells #[Value.int IntKind.i64 0, Value.int IntKind.i64 0] 77)) 77 #[.int .i64 0, .int .i64 0]
    rwa [World.size_alloc, World.size_alloc] at this
  generalize (((w.alloc (Obj.cells #[Value.func (Fn.func 59) #[] #[]] 89)).alloc (Obj.cells #[Value.int IntKind.i64 0, Value.int IntKind.i64 0] 77)).alloc (Obj.cells #[Value.int IntKind.i64 0, Value.int IntKind.i64 0] 77)) = W0 at hz hB0 bA bR bF ⊢
  refine range_outer (w0 := w) (F := Fence.wide) (gf := gf) (lb := lb) rfl rfl rfl trivial eg hseq hB0 (fun _ => rfl) (fun k => k = w.heap.size + 1 + 1) (fun k hk => by omega) (fun k hk => ⟨by have := hD.out k hk; omega, by have := hD.out k hk; omega⟩)
    (fun pre W' => Blk W' (w.heap.size + 1 + 1) 77 #[.int .i64 (bestF gtF pre).1, .int .i64 (bestF gtF pre).2] ∧ Kept (fun k => k = w.heap.size + 1 + 1) W0 W') (fun _ _ _ => False)
    ?hI (fun _ _ _ _ hs _ => hs) ⟨bF, Kept.refl _ _⟩ ?hround ?hdone (fun _ _ _ _ _ _ _ h _ => h.elim)
  case hI => exact fun s a b hs hb => ⟨hs.1.below hb (by omega), stable_kept (β := Unit) (Nat.le_refl _) () a b hs.2 hb⟩
  case hdone =>
    rintro Dd W' hd1 hd2 ⟨bF1, hk1⟩ hK
    obtain ⟨f0, f1, f2, f3⟩ := bF1.facts2
    have bR1 := bR.kept hk1 (by omega)
    obtain ⟨r0, r1, r2, r3⟩ := bR1.facts2
    have hb1 : Below w.heap.size w W' := hB0.trans (hk1.below (by omega) (fun k hk => by omega))
    gi_wp2
    have hne : Dd ≠ w.heap.size + 1 := by omega
    have hK2 : ((W'.setCell ⟨w.heap.size + 1, 0, none⟩ (.int .i64 (bestF gtF xs).1)).setCell ⟨w.heap.size + 1, 1, none⟩ (.int .i64 (bestF gtF xs).2)).heap[Dd]? = some (.deferred (some [])) := (Below.heap_setCell _ _ _ Dd hne).trans ((Below.heap_setCell _ _ _ Dd hne).trans hK)
    have bR2 : Blk (((W'.setCell ⟨w.heap.size + 1, 0, none⟩ (.int .i64 (bestF gtF xs).1)).setCell ⟨w.heap.size + 1, 1, none⟩ (.int .i64 (bestF gtF xs).2)).putObj Dd (.deferred none)) (w.heap.size + 1) 77 #[.int .i64 (bestF gtF xs).1, .int .i64 (bestF gtF xs).2] :=
      (World.putObj_heap_other hne.symm).trans ((bR1.set_ 0 _).set_ 1 _)
    obtain ⟨q0, q1, _, _⟩ := bR2.facts2
    refine ⟨by simp, .inl ⟨_, _, rfl, run_takeDeferred hK2, ?_⟩⟩
    refine ⟨.agg #[.int .i64 (bestF gtF xs).1, .int .i64 (bestF gtF xs).2], by simp [results, Try.results57, go_sem, q0, q1], rfl, ?_⟩
    exact ((hb1.setCell (by simp) _).setCell (by simp) _).trans (below_putObj _ _ _ (by omega))
  case hround =>
    rintro m l pre ⟨xn, xd⟩ rest W1 K hl1 hl2 hx ⟨bF1, hk1⟩ hK
    have hfr : FracOk (xn, xd) := hok.out _ (by rw [hx]; simp)
    obtain ⟨o1, o2, o3, o4⟩ := hfr
    dsimp only at o1 o2 o3 o4
    have hbest := bestF_ok (lt := gtF) pre (fun p hp => hok.out _ (by rw [hx]; simp [hp]))
    have hsn := Lib.hid (bestF_snoc gtF pre (xn, xd))
    dsimp only [encF]
    gi_wp2
    refine hK _ _ ((Below.refl _ _).alloc (Nat.le_refl _) _) ?_
    clear hK bF1
    intro W2 hz2 hk2 hrec ⟨bF2, hk02⟩
    have bX : Blk W2 W1.heap.size 77 #[.int .i64 xn, .int .i64 xd] := (Blk.new W1 _ _).kept hk2 (by omega)
    have bA2 := bA.kept hk02 (by omega)
    generalize hbb : bestF gtF pre = bb at bF2 hbest
    have hbb' := Lib.hid hbb
    clear hbb hk2 hz2
    obtain ⟨bn, bd⟩ := bb
    dsimp only at bF2
    obtain ⟨f0, f1, f2, f3⟩ := bF2.facts2
    obtain ⟨x0, x1, x2, x3⟩ := bX.facts2
    obtain ⟨a0, a1⟩ := bA2.facts1
    by_cases h0 : bd = 0
    · subst h0
      have hst : Hid (bestF gtF (pre ++ [(xn, xd)]) = (xn, xd)) := Lib.hid (by rw [hsn.out, hbb'.out]; simp [stepF])
      gi_wp2
      refine ⟨fun _ h => (by cases h), ?_⟩
      gi_wp2
      have bF3 := (bF2.set_ 0 (.int .i64 xn)).set_ 1 (.int .i64 xd)
      have hk3 : Kept (fun k => k = w.heap.size + 1 + 1) W2 ((W2.setCell ⟨w.heap.size + 1 + 1, 0, none⟩ (.int .i64 xn)).setCell ⟨w.heap.size + 1 + 1, 1, none⟩ (.int .i64 xd)) := ((Kept.refl (fun k => k = w.heap.size + 1 + 1) W2).setCell (p := ⟨w.heap.size + 1 + 1, 0, none⟩) rfl _).setCell (p := ⟨w.heap.size + 1 + 1, 1, none⟩) rfl _
      exact ⟨hk3, by rw [hst.out]; exact bF3, hk02.trans hk3⟩
    · have hbk : FracOk (bn, bd) := by
        rcases hbest with e | e
        · simp only [Prod.mk.injEq] at e; exact absurd e.2 h0
        · exact e
      obtain ⟨p1, p2, p3, p4⟩ := hbk
      dsimp only at p1 p2 p3 p4
      have h0' : (bd == 0) = false := by simpa using h0
      by_cases hlt : gtF (xn, xd) (bn, bd) = true
      · have hst : Hid (bestF gtF (pre ++ [(xn, xd)]) = (xn, xd)) := Lib.hid (by rw [hsn.out, hbb'.out]; simp [stepF, hlt])
        have hc := more_any xn xd bn bd W2 o1 o2 o3 o4 p1 p2 p3 p4
        have hlt' := hlt
        unfold gtF at hlt
        rw [hlt] at hc
        clear hlt hlt' h0
        gi_wp2_with (refine ⟨trivial, hdd _, ?_⟩; gi_at_call 59; refine (CallsIn.inRound l (callsIn_wide.2 hc)).mono ?_; rintro e w6 ⟨rfl, hb6⟩; obtain ⟨g0, g1, g2, g3⟩ := (bX.below hb6 bX.lt).facts2; obtain ⟨i0, i1, i2, i3⟩ := (bF2.below hb6 bF2.lt).facts2)
        have bF3 := ((bF2.below hb6 bF2.lt).set_ 0 (.int .i64 xn)).set_ 1 (.int .i64 xd)
        have hk3 : Kept (fun k => k = w.heap.size + 1 + 1) W2 ((w6.setCell ⟨w.heap.size + 1 + 1, 0, none⟩ (.int .i64 xn)).setCell ⟨w.heap.size + 1 + 1, 1, none⟩ (.int .i64 xd)) := ((Kept.of_below (C := fun k => k = w.heap.size + 1 + 1) hb6).setCell (p := ⟨w.heap.size + 1 + 1, 0, none⟩) rfl _).setCell (p := ⟨w.heap.size + 1 + 1, 1, none⟩) rfl _
        exact ⟨hk3, by rw [hst.out]; exact bF3, hk02.trans hk3⟩
      · have hst : Hid (bestF gtF (pre ++ [(xn, xd)]) = (bn, bd)) := Lib.hid (by rw [hsn.out, hbb'.out]; simp [stepF, hlt, h0])
        have hc := more_any xn xd bn bd W2 o1 o2 o3 o4 p1 p2 p3 p4
        have hlt' : gtF (xn, xd) (bn, bd) = false := by simpa using hlt
        unfold gtF at hlt'
        rw [hlt'] at hc
        clear hlt hlt' h0
        gi_wp2_with (refine ⟨trivial, hdd _, ?_⟩; gi_at_call 59; refine (CallsIn.inRound l (callsIn_wide.2 hc)).mono ?_; rintro e w6 ⟨rfl, hb6⟩)
        have hk3 : Kept (fun k => k = w.heap.size + 1 + 1) W2 w6 := Kept.of_below hb6
        exact ⟨hk3, by rw [hst.out]; exact bF2.below hb6 bF2.lt, hk02.trans hk3⟩

end Go.Proofs.Ytcghafdemklnnaa
