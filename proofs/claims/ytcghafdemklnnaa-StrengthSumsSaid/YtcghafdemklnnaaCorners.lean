/- corners hands on the values at the corners of a rectangle. -/
import Derived.Test.YtcghafdemklnnaaValue
import Derived.Test.YtcghafdemklnnaaBends
import Derived.Test.YtcghafdemklnnaaTake
namespace Go.Proofs.Ytcghafdemklnnaa
open Go.RowKit Go.Sort Go.Shelf
attribute [local go_sem] Oper.semAt_some

def RowD (D : Nat → Prop) (w : World) (b off : Nat) (xs : List Int) : Prop := Row w b off xs ∧ D b
theorem RowD.kept {D C : Nat → Prop} (hDC : ∀ k, D k → ¬ C k) {w w' : World} {b off : Nat} {xs : List Int} (h : RowD D w b off xs) (hk : Kept C w w') : RowD D w' b off xs :=
  ⟨⟨Nat.lt_of_lt_of_le h.1.1 hk.size, fun j hj => (hk.cell (p := ⟨b, off + j, none⟩) h.1.1 (hDC _ h.2)).trans (h.1.2 j hj)⟩, h.2⟩
def GridD (D : Nat → Prop) (w : World) (rb roff : Nat) (rows : List (List Int)) : Prop :=
  rb < w.heap.size ∧ D rb ∧ ∀ i, i < rows.length → ∃ b off cap, w.cell? ⟨rb, roff + i, none⟩ = some (.slice (some ⟨b, off, none⟩) (rows[i]?.getD []).length cap) ∧ RowD D w b off (rows[i]?.getD [])
theorem GridD.kept {D C : Nat → Prop} (hDC : ∀ k, D k → ¬ C k) {w w' : World} {rb roff : Nat} {rows : List (List Int)} (h : GridD D w rb roff rows) (hk : Kept C w w') : GridD D w' rb roff rows :=
  ⟨Nat.lt_of_lt_of_le h.1 hk.size, h.2.1, fun i hi => by
    obtain ⟨b, off, cap, h1, h2⟩ := h.2.2 i hi
    exact ⟨b, off, cap, (hk.cell (p := ⟨rb, roff + i, none⟩) h.1 (hDC _ h.2.1)).trans h1, h2.kept hDC hk⟩⟩
theorem GridD.grid {D : Nat → Prop} {w : World} {rb roff : Nat} {rows : List (List Int)} (h : GridD D w rb roff rows) : Grid w rb roff rows :=
  ⟨h.1, fun i hi => by obtain ⟨b, off, cap, h1, h2⟩ := h.2.2 i hi; exact ⟨b, off, cap, h1, h2.1⟩⟩

def valAt (T S : List Int) (rows : List (List Int)) (x s : Int) : Int × Int := (valNum T S rows x s, valDen T S x s)
def cornersL (T S : List Int) (rows : List (List Int)) (slo shi xlo xhi : Int) : List (Int × Int) :=
  (bendsL T xlo xhi).flatMap fun x => (bendsL S slo shi).map fun s => valAt T S rows x s
def encF (p : Int × Int) : Array Value := #[.agg #[.int .i64 p.1, .int .i64 p.2]]

theorem bends_within {xs : List Int} {lo hi : Int} (hl : Within xs lo) (hh : Within xs hi) {x : Int} (h : x ∈ bendsL xs lo hi) : Within xs x := by
  simp only [bendsL, List.mem_cons, List.mem_append, List.mem_filter, Bool.and_eq_true, decide_eq_true_eq] at h
  rcases h with rfl | h | h
  · exact hl
  · exact ⟨by have := hl.1; omega, by have := hh.2; omega⟩
  · split at h
    · simp at h; subst h; exact hh
    · simp at h

theorem Blk.kept {C : Nat → Prop} {w w' : World} {g : Nat} {t : TypeId} {cs : Array Value} (h : Blk w g t cs) (hk : Kept C w w') (hc : ¬ C g) : Blk w' g t cs := (hk.block g h.lt hc).trans h
def flatC (T S : List Int) (rows : List (List Int)) (slo shi : Int) (pre : List Int) : List (Int × Int) := pre.flatMap fun x => (bendsL S slo shi).map fun s => valAt T S rows x s
theorem flatC_snoc (T S : List Int) (rows : List (List Int)) (slo shi : Int) (pre : List Int) (x : Int) : flatC T S rows slo shi (pre ++ [x]) = flatC T S rows slo shi pre ++ (bendsL S slo shi).map fun s => valAt T S rows x s := by simp [flatC]
theorem corners_split {T S : List Int} {rows : List (List Int)} {slo shi xlo xhi x s : Int} {pre rest pre2 rest2 : List Int} (h1 : bendsL T xlo xhi = pre ++ x :: rest) (h2 : bendsL S slo shi = pre2 ++ s :: rest2) :
    ∃ r, cornersL T S rows slo shi xlo xhi = (flatC T S rows slo shi pre ++ pre2.map fun s => valAt T S rows x s) ++ valAt T S rows x s :: r := by
  unfold cornersL flatC
  rw [h1]
  simp only [List.flatMap_append, List.flatMap_cons]
  rw [h2]
  simp only [List.map_append, List.map_cons, List.append_assoc, List.cons_append]
  exact ⟨_, rfl⟩

set_option maxRecDepth 100000 in
set_option maxHeartbeats 4000000 in
theorem corners1_in (n l Bt Bx Bs Br tb toff tcap sb soff scap rb roff rcap : Nat) (v2 v3 : Value) (T S : List Int) (rows : List (List Int)) (slo shi xlo xhi : Int) (h2 : ∃ A l c, v2 = .slice A l c) (h3 : ∃ A l c, v3 = .slice A l c)
    (hT : Hid (AxisOk T (-500) 1000)) (hS : Hid (AxisOk S 0 10000)) (hg : Hid (GridOk T S rows)) (hx : Hid (Within T xlo ∧ Within T xhi)) (hs : Hid (Within S slo ∧ Within S shi))
    (D C : Nat → Prop) (hDC : Hid (∀ k, D k → ¬ C k)) (J Jx : List (Int × Int) → World → Prop) (W : World) (hC : Hid (∀ k, C k → k < W.heap.size)) (hJ : Hid (Stable W.heap.size J)) (hJx : Hid (Stable W.heap.size Jx))
    (hY : Hid (∀ pre x rest W1, cornersL T S rows slo shi xlo xhi = pre ++ x :: rest → J pre W1 → W.heap.size ≤ W1.heap.size → ∀ m, YieldAt Fence.wide m Try.prog l (encF x) W1 fun e W' =>
      Kept C W1 W' ∧ ((e = .returned (.bool true) ∧ J (pre ++ [x]) W') ∨ (e = .returned (.bool false) ∧ Jx (pre ++ [x]) W'))))
    (rT : RowD D W tb toff T) (rS : RowD D W sb soff S) (rG : GridD D W rb roff rows)
    (bt : Blk W Bt 25 #[.slice (some ⟨tb, toff, none⟩) T.length tcap, .slice (some ⟨sb, soff, none⟩) S.length scap, v2, v3]) (bx : Blk W Bx 27 #[.int .i64 xlo, .int .i64 xhi]) (bs : Blk W Bs 27 #[.int .i64 slo, .int .i64 shi]) (br : Blk W Br 23 #[.slice (some ⟨rb, roff, none⟩) rows.length rcap])
    (dB : Hid (D Bt ∧ D Bx ∧ D Bs ∧ D Br)) (h0 : J [] W) :
    CallsIn Fence.wide n Try.prog 84 #[.func (.yield l) #[] #[], .pointer (some ⟨Bt, 0, none⟩), .pointer (some ⟨Bx, 0, none⟩), .pointer (some ⟨Bs, 0, none⟩), .pointer (some ⟨Br, 0, none⟩)] W fun e W' =>
      (∃ v, e = .returned v) ∧ (J (cornersL T S rows slo shi xlo xhi) W' ∨ ∃ pre, pre <+: cornersL T S rows slo shi xlo xhi ∧ Jx pre W') := by
  obtain ⟨A2, l2', c2, rfl⟩ := h2
  obtain ⟨A3, l3, c3, rfl⟩ := h3
  have hdd : ∀ k : Nat, (Fence.wide.depth.isSome = true → 1 ≤ k) := fun k h => (by cases h)
  refine callsIn_of_wp_marks Try.func84 rfl trivial ?_ rfl
  simp only [Try.ntmps84, List.size_toArray, List.length_cons, List.length_nil, Nat.reduceAdd, Nat.reduceSub, Array.replicate_succ, Array.replicate_zero, List.push_toArray, List.append_toArray, List.nil_append, List.cons_append]
  obtain ⟨t0, t1, t2, t3, _, _, _, _⟩ := bt.facts4
  obtain ⟨x0, x1, _, _⟩ := bx.facts2
  have ltt := bt.lt
  have ltx := bx.lt
  gi_wp2_with (refine ⟨trivial, hdd _, ?_⟩; gi_at_call 80; refine (bends_in Fence.wide _ trivial rfl _ _ _ ⟨_, _, _, rfl⟩ _).mono ?_; rintro e w' ⟨rfl, rfl⟩)
  have hz : (((W.alloc (Obj.cells #[Value.func (Fn.yield l) #[] #[]] 84)).alloc (Obj.cells #[Value.slice (some ⟨tb, toff, none⟩) T.length tcap] 22)).alloc (Obj.cells #[Value.int IntKind.i64 xlo, Value.int IntKind.i64 xhi] 27)).heap.size = W.heap.size + 3 := by simp
  have hBW : Below W.heap.size W (((W.alloc (Obj.cells #[Value.func (Fn.yield l) #[] #[]] 84)).alloc (Obj.cells #[Value.slice (some ⟨tb, toff, none⟩) T.length tcap] 22)).alloc (Obj.cells #[Value.int IntKind.i64 xlo, Value.int IntKind.i64 xhi] 27)) := (((Below.refl _ _).alloc (Nat.le_refl _) _).alloc (by simp) _).alloc (by simp; omega) _
  have bY : Blk (((W.alloc (Obj.cells #[Value.func (Fn.yield l) #[] #[]] 84)).alloc (Obj.cells #[Value.slice (some ⟨tb, toff, none⟩) T.length tcap] 22)).alloc (Obj.cells #[Value.int IntKind.i64 xlo, Value.int IntKind.i64 xhi] 27)) W.heap.size 84 #[.func (.yield l) #[] #[]] := ((Blk.new W _ _).alloc _).alloc _
  have bA : Blk (((W.alloc (Obj.cells #[Value.func (Fn.yield l) #[] #[]] 84)).alloc (Obj.cells #[Value.slice (some ⟨tb, toff, none⟩) T.length tcap] 22)).alloc (Obj.cells #[Value.int IntKind.i64 xlo, Value.int IntKind.i64 xhi] 27)) (W.heap.size + 1) 22 #[.slice (some ⟨tb, toff, none⟩) T.length tcap] := by
    have := (Blk.new (W.alloc (Obj.cells #[Value.func (Fn.yield l) #[] #[]] 84)) 22 #[.slice (some ⟨tb, toff, none⟩) T.length tcap]).alloc (Obj.cells #[Value.int IntKind.i64 xlo, Value.int IntKind.i64 xhi] 27)
    rwa [World.size_alloc] at this
  have bP : Blk (((W.alloc (Obj.cells #[Value.func (Fn.yield l) #[] #[]] 84)).alloc (Obj.cells #[Value.slice (some ⟨tb, toff, none⟩) T.length tcap] 22)).alloc (Obj.cells #[Value.int IntKind.i64 xlo, Value.int IntKind.i64 xhi] 27)) (W.heap.size + 1 + 1) 27 #[.int .i64 xlo, .int .i64 xhi] := by
    have := Blk.new ((W.alloc (Obj.cells #[Value.func (Fn.yield l) #[] #[]] 84)).alloc (Obj.cells #[Value.slice (some ⟨tb, toff, none⟩) T.length tcap] 22)) 27 #[.int .i64 xlo, .int .i64 xhi]
    rwa [World.size_alloc, World.size_alloc] at this
  generalize (((W.alloc (Obj.cells #[Value.func (Fn.yield l) #[] #[]] 84)).alloc (Obj.cells #[Value.slice (some ⟨tb, toff, none⟩) T.length tcap] 22)).alloc (Obj.cells #[Value.int IntKind.i64 xlo, Value.int IntKind.i64 xhi] 27)) = W0 at hz hBW bY bA bP ⊢
  obtain ⟨bA0, _⟩ := bA.facts1
  obtain ⟨bP0, bP1, _, _⟩ := bP.facts2
  have hC0 : ∀ k, C k → k < W0.heap.size := fun k hk => by have := hC.out k hk; omega
  have hnC : ∀ k, W.heap.size ≤ k → ¬ C k := fun k hk hc => by have := hC.out k hc; omega
  refine range_outer (w0 := W0) (F := Fence.wide) (gf := 86) (lb := #[.pointer (some ⟨W.heap.size + 1 + 1, 0, none⟩), .pointer (some ⟨W.heap.size + 1, 0, none⟩)]) rfl rfl rfl trivial (enters_of Try.func86 (by kernel_rfl) rfl)
    (bends_seq Fence.wide trivial rfl rfl (W.heap.size + 1 + 1) (W.heap.size + 1) tb toff tcap T xlo xhi (by have := hT.out.most; omega) (fun k => k = tb ∨ k = W.heap.size + 1 ∨ k = W.heap.size + 1 + 1) W0 ⟨by omega, .inr (.inr rfl)⟩ ⟨by omega, .inr (.inl rfl)⟩ ⟨by have := rT.1.1; omega, .inl rfl⟩ bP0 bP1 bA0 (rT.1.below hBW).2)
    (Below.refl _ _) (fun _ => rfl) C hC0
    (fun k hk => by
      rcases hk with rfl | rfl | rfl
      · exact ⟨by have := rT.1.1; omega, hDC.out _ rT.2⟩
      · exact ⟨by omega, hnC _ (by omega)⟩
      · exact ⟨by omega, hnC _ (by omega)⟩)
    (fun pre W' => J (flatC T S rows slo shi pre) W' ∧ Kept C W0 W') (fun c pre W' => c = .ret ∧ ∃ q, q <+: cornersL T S rows slo shi xlo xhi ∧ Jx q W')
    ?hI ?hIx ?h0 ?hround ?hdone ?hstop
  case hI => exact fun s a b hs hb => ⟨hJ.out _ _ _ hs.1 (hb.mono (by omega)), stable_kept (β := Unit) (Nat.le_refl _) () a b hs.2 hb⟩
  case hIx => exact fun c s a b hs hb => ⟨hs.1, by obtain ⟨q, h1, h2⟩ := hs.2; exact ⟨q, h1, hJx.out _ _ _ h2 (hb.mono (by omega))⟩⟩
  case h0 => exact ⟨hJ.out _ _ _ h0 hBW, Kept.refl _ _⟩
  case hdone =>
    rintro Dd W' hd1 hd2 ⟨hj, hk⟩ hK
    gi_wp2
    refine ⟨by simp, .inl ⟨_, _, rfl, run_takeDeferred hK, ?_⟩⟩
    exact ⟨_, results_none rfl _ _ _, ⟨_, rfl⟩, .inl (hJ.out _ _ _ hj (below_putObj _ _ _ (by omega)))⟩
  case hstop =>
    rintro Dd c pre W' hd1 hd2 hpre ⟨rfl, q, hq, hjx⟩ hK
    gi_wp2
    refine ⟨by simp, .inl ⟨_, _, rfl, run_takeDeferred hK, ?_⟩⟩
    exact ⟨_, results_none rfl _ _ _, ⟨_, rfl⟩, .inr ⟨q, hq, hJx.out _ _ _ hjx (below_putObj _ _ _ (by omega))⟩⟩
  case hround =>
    rintro m lo pre x rest W1 K hlo1 hlo2 hpre ⟨hj1, hk1⟩ hK
    have hx1 : Within T x := bends_within hx.out.1 hx.out.2 (by rw [hpre]; simp)
    gi_wp2
    refine hK _ _ ((Below.refl _ _).alloc (Nat.le_refl _) _) ?_
    intro W2 hz2 hk2 hrec ⟨hj2, hk02⟩
    have hz2' : W2.heap.size = W1.heap.size + 1 := by rw [hz2]; simp
    have bX : Blk W2 W1.heap.size 3 #[.int .i64 x] := (Blk.new W1 _ _).kept hk2 (by omega)
    clear hk2 hz2 hK
    have bY2 := bY.kept hk02 (hnC _ (by omega))
    have bt2 := (bt.below hBW bt.lt).kept hk02 (hDC.out _ dB.out.1)
    have bs2 := (bs.below hBW bs.lt).kept hk02 (hDC.out _ dB.out.2.2.1)
    have br2 := (br.below hBW br.lt).kept hk02 (hDC.out _ dB.out.2.2.2)
    obtain ⟨_, u1, _, _, _, _, _, _⟩ := bt2.facts4
    obtain ⟨s0, s1, _, _⟩ := bs2.facts2
    have lb2 := bt2.lt
    have lb3 := bs2.lt
    gi_wp2_with (refine ⟨trivial, hdd _, ?_⟩; gi_at_call 80; refine (CallsIn.inRound lo (bends_in Fence.wide _ trivial rfl _ _ _ ⟨_, _, _, rfl⟩ _)).mono ?_; rintro e w' ⟨rfl, rfl⟩)
    have hz3 : ((W2.alloc (Obj.cells #[Value.slice (some ⟨sb, soff, none⟩) S.length scap] 22)).alloc (Obj.cells #[Value.int IntKind.i64 slo, Value.int IntKind.i64 shi] 27)).heap.size = W1.heap.size + 3 := by simp; omega
    have hB3 : Below W2.heap.size W2 ((W2.alloc (Obj.cells #[Value.slice (some ⟨sb, soff, none⟩) S.length scap] 22)).alloc (Obj.cells #[Value.int IntKind.i64 slo, Value.int IntKind.i64 shi] 27)) := ((Below.refl _ _).alloc (Nat.le_refl _) _).alloc (by simp) _
    have cA : Blk ((W2.alloc (Obj.cells #[Value.slice (some ⟨sb, soff, none⟩) S.length scap] 22)).alloc (Obj.cells #[Value.int IntKind.i64 slo, Value.int IntKind.i64 shi] 27)) (W1.heap.size + 1) 22 #[.slice (some ⟨sb, soff, none⟩) S.length scap] := by
      have := (Blk.new W2 22 #[.slice (some ⟨sb, soff, none⟩) S.length scap]).alloc (Obj.cells #[Value.int IntKind.i64 slo, Value.int IntKind.i64 shi] 27)
      rwa [hz2'] at this
    have cP : Blk ((W2.alloc (Obj.cells #[Value.slice (some ⟨sb, soff, none⟩) S.length scap] 22)).alloc (Obj.cells #[Value.int IntKind.i64 slo, Value.int IntKind.i64 shi] 27)) (W1.heap.size + 1 + 1) 27 #[.int .i64 slo, .int .i64 shi] := by
      have := Blk.new (W2.alloc (Obj.cells #[Value.slice (some ⟨sb, soff, none⟩) S.length scap] 22)) 27 #[.int .i64 slo, .int .i64 shi]
      rwa [World.size_alloc, hz2'] at this
    generalize ((W2.alloc (Obj.cells #[Value.slice (some ⟨sb, soff, none⟩) S.length scap] 22)).alloc (Obj.cells #[Value.int IntKind.i64 slo, Value.int IntKind.i64 shi] 27)) = W3 at hz3 hB3 cA cP ⊢
    obtain ⟨cA0, _⟩ := cA.facts1
    obtain ⟨cP0, cP1, _, _⟩ := cP.facts2
    have hrec3 : ∃ r, W3.heap[lo]? = some (.loop r) := by obtain ⟨r, hr⟩ := hrec; exact ⟨r, (hB3.block _ (by omega)).trans hr⟩
    have hk03 : Kept C W0 W3 := hk02.trans (Kept.of_below hB3)
    have bX3 := bX.below hB3 bX.lt
    have hle : W0.heap.size ≤ W1.heap.size := hk1.size
    have rS3 := (rS.1.below hBW)
    have rS3' : RowD D W3 sb soff S := RowD.kept hDC.out (RowD.kept (C := C) hDC.out rS (Kept.of_below hBW)) hk03
    have rT3 : RowD D W3 tb toff T := RowD.kept hDC.out (RowD.kept (C := C) hDC.out rT (Kept.of_below hBW)) hk03
    have rG3 : GridD D W3 rb roff rows := GridD.kept hDC.out (GridD.kept (C := C) hDC.out rG (Kept.of_below hBW)) hk03
    have bY3 := bY.kept hk03 (hnC _ (by omega))
    have bt3 := (bt.below hBW bt.lt).kept hk03 (hDC.out _ dB.out.1)
    have br3 := (br.below hBW br.lt).kept hk03 (hDC.out _ dB.out.2.2.2)
    have hC3 : ∀ k, C k → k < W3.heap.size := fun k hk => by have := hC.out k hk; omega
    have hj3 := hJ.out _ _ _ hj2 (hB3.mono (by omega))
    refine range_inner (w0 := W3) (l₀ := lo) (F := Fence.wide.inRound lo) (gf := 86) (lb := #[.pointer (some ⟨W1.heap.size + 1 + 1, 0, none⟩), .pointer (some ⟨W1.heap.size + 1, 0, none⟩)]) rfl hrec3 rfl rfl trivial (enters_of Try.func86 (by kernel_rfl) rfl)
      ((bends_seq Fence.wide trivial rfl rfl (W1.heap.size + 1 + 1) (W1.heap.size + 1) sb soff scap S slo shi (by have := hS.out.most; omega) (fun k => k = sb ∨ k = W1.heap.size + 1 ∨ k = W1.heap.size + 1 + 1) W3 ⟨by omega, .inr (.inr rfl)⟩ ⟨by omega, .inr (.inl rfl)⟩ ⟨rS3'.1.1, .inl rfl⟩ cP0 cP1 cA0 rS3'.1.2).inRound lo)
      (Below.refl _ _) (fun _ => rfl) C hC3
      (fun k hk => by
        rcases hk with rfl | rfl | rfl
        · exact ⟨rS3'.1.1, hDC.out _ rS3'.2⟩
        · exact ⟨by omega, hnC _ (by omega)⟩
        · exact ⟨by omega, hnC _ (by omega)⟩)
      (fun pre2 W' => J (flatC T S rows slo shi pre ++ pre2.map fun s => valAt T S rows x s) W' ∧ Kept C W3 W') (fun c pre2 W' => (c = .ret ∧ ∃ q, q <+: cornersL T S rows slo shi xlo xhi ∧ Jx q W') ∧ Kept C W3 W')
      ?hI2 ?hIx2 ?h02 ?hround2 ?hdone2 ?hstop2
    case hI2 => exact fun s a b hs hb => ⟨hJ.out _ _ _ hs.1 (hb.mono (by omega)), stable_kept (β := Unit) (Nat.le_refl _) () a b hs.2 hb⟩
    case hIx2 => exact fun c s a b hs hb => ⟨⟨hs.1.1, by obtain ⟨q, h1, h2⟩ := hs.1.2; exact ⟨q, h1, hJx.out _ _ _ h2 (hb.mono (by omega))⟩⟩, stable_kept (β := Unit) (Nat.le_refl _) () a b hs.2 hb⟩
    case h02 => exact ⟨by simpa using hj3, Kept.refl _ _⟩
    case hdone2 =>
      rintro W' ⟨hj', hk'⟩
      gi_wp2
      exact ⟨(Kept.of_below hB3).trans hk', by rw [flatC_snoc]; exact hj', hk03.trans hk'⟩
    case hstop2 =>
      rintro c pre2 W' hpre2 ⟨⟨rfl, q, hq, hjx⟩, hk'⟩
      gi_wp2
      exact ⟨(Kept.of_below hB3).trans hk', rfl, q, hq, hjx⟩
    case hround2 =>
      rintro m2 l2 pre2 s rest2 W4 K hl1 hl2 hpre2 ⟨hj4, hk4⟩ hK
      have hs1 : Within S s := bends_within hs.out.1 hs.out.2 (by rw [hpre2]; simp)
      gi_wp2
      refine hK _ _ (Below.refl _ _) ?_
      intro W5 hz5 hk5 hrec5 ⟨hj5, hk35⟩
      clear hK
      gi_wp2_with fail
      have hk05 : Kept C W3 W5 := hk35
      have bY5 := bY3.kept hk05 (hnC _ (by omega))
      have bt5 := bt3.kept hk05 (hDC.out _ dB.out.1)
      have br5 := br3.kept hk05 (hDC.out _ dB.out.2.2.2)
      have bX5 := bX3.kept hk05 (hnC _ (by omega))
      refine wpIn_region_S (fun w' => Kept C W5 w') (by kernel_rfl) ?_
      refine wpAnyS_take (i := 0) (v := .func (.yield l) #[] #[]) (noDefB_spec (by kernel_rfl)) rfl (by kernel_rfl) (by kernel_rfl) (by kernel_rfl) (fun _ _ _ h => h) ⟨.inl ⟨rfl, fun w hw => ?_⟩, fun w hw => rfl⟩ (Kept.refl C W5).drew ?_
      · have h1 := ((bY5.kept hw (hnC _ (by omega))).facts1).1
        go_simp
      refine wpAnyS_take (i := 1) (v := .agg #[.slice (some ⟨tb, toff, none⟩) T.length tcap, .slice (some ⟨sb, soff, none⟩) S.length scap, .slice A2 l2' c2, .slice A3 l3 c3]) (noDefB_spec (by kernel_rfl)) rfl (by kernel_rfl) (by kernel_rfl) (by kernel_rfl) (fun _ _ _ h => h) ⟨.inl ⟨rfl, fun w hw => ?_⟩, fun w hw => rfl⟩ (Kept.refl C W5).drew ?_
      · obtain ⟨h1, h2, h3, h4, _, _, _, _⟩ := (bt5.kept hw (hDC.out _ dB.out.1)).facts4
        go_simp
      refine wpAnyS_take (i := 2) (v := .slice (some ⟨rb, roff, none⟩) rows.length rcap) (noDefB_spec (by kernel_rfl)) rfl (by kernel_rfl) (by kernel_rfl) (by kernel_rfl) (fun _ _ _ h => h) ⟨.inl ⟨rfl, fun w hw => ?_⟩, fun w hw => rfl⟩ (Kept.refl C W5).drew ?_
      · obtain ⟨h1, _⟩ := (br5.kept hw (hDC.out _ dB.out.2.2.2)).facts1
        go_simp
      refine wpAnyS_take (i := 3) (v := .int .i64 x) (noDefB_spec (by kernel_rfl)) rfl (by kernel_rfl) (by kernel_rfl) (by kernel_rfl) (fun _ _ _ h => h) ⟨.inl ⟨rfl, fun w hw => ?_⟩, fun w hw => rfl⟩ (Kept.refl C W5).drew ?_
      · obtain ⟨h1, _⟩ := (bX5.kept hw (hnC _ (by omega))).facts1
        go_simp
      refine wpAnyS_take (i := 4) (v := .int .i64 s) (noDefB_spec (by kernel_rfl)) rfl (by kernel_rfl) (by kernel_rfl) (by kernel_rfl) (fun _ _ _ h => h) ⟨.inl ⟨rfl, fun w hw => ?_⟩, fun w hw => rfl⟩ (Kept.refl C W5).drew ?_
      · go_simp
      simp only [Act.put, List.setIfInBounds_toArray]
      have rT5 := (RowD.kept hDC.out rT3 hk05).1
      have rS5 := (RowD.kept hDC.out rS3' hk05).1
      have rG5 := (GridD.kept hDC.out rG3 hk05).grid
      refine wpAnyS_one (i := 5) (by kernel_rfl) ?_
      refine wpOpIn_step rfl (fun K' hK' => ?_)
      go_simp
      refine ⟨trivial, fun h => (by cases h), ?_⟩
      refine (CallsIn.inRound l2 (CallsIn.inRound lo (callsIn_wide.2 (value_any tb toff tcap sb soff scap rb roff rcap _ _ T S rows x s W5.drew ⟨_, _, _, rfl⟩ ⟨_, _, _, rfl⟩ hT hS hg (Lib.hid hx1) (Lib.hid hs1) rT5 rS5 rG5)))).mono ?_
      rintro e w6 ⟨rfl, hb6⟩
      refine hK' _ _ ⟨(Kept.refl C W5).drew.trans (Kept.of_below hb6), ?_⟩
      obtain ⟨r, hsplit⟩ := corners_split (rows := rows) hpre hpre2
      have hb56 : Below W.heap.size W5 w6 := (Below.refl _ _).drew.trans (hb6.mono (by have := hk05.size; simp only [World.drew]; omega))
      obtain ⟨fn, tmps, assign, body, hy, hR⟩ := hY.out _ _ r w6 hsplit (hJ.out _ _ _ hj5 hb56) (by have := hb56.size; have := hk05.size; omega) (m2 - 1)
      dsimp only [encF, valAt] at hy
      refine wpAnyS_one (i := 6) (by kernel_rfl) ?_
      refine wpOpIn_step rfl (fun K' hK' => ?_)
      simp only [Act.put, List.setIfInBounds_toArray]
      go_simp
      refine ⟨fun h => (by cases h), ?_⟩
      refine RoundIn.mono (F := (Fence.wide.inRound lo).inRound l2) hR ?_
      clear hy hR
      have hk56 : Kept C W5 w6 := (Kept.refl C W5).drew.trans (Kept.of_below hb6)
      rintro e w7 ⟨hk7, ⟨rfl, hj7⟩ | ⟨rfl, hjx7⟩⟩
      · refine hK' _ _ ⟨hk56.trans hk7, ?_⟩
        clear hK' K'
        refine wpAnyS_one (i := 7) (by kernel_rfl) ?_
        refine wpOpIn_step rfl (fun K' hK' => ?_)
        simp only [Act.put, List.setIfInBounds_toArray]
        go_simp
        refine hK' _ _ ⟨hk56.trans hk7, ?_⟩
        clear hK' K'
        refine wpAnyS_done (by kernel_rfl) ?_ _
        gi_wp2
        exact ⟨hk56.trans hk7, by rw [List.map_append, ← List.append_assoc]; exact hj7, hk05.trans (hk56.trans hk7)⟩
      · refine hK' _ _ ⟨hk56.trans hk7, ?_⟩
        clear hK' K'
        refine wpAnyS_one (i := 7) (by kernel_rfl) ?_
        refine wpOpIn_step rfl (fun K' hK' => ?_)
        simp only [Act.put, List.setIfInBounds_toArray]
        go_simp
        refine hK' _ _ ⟨hk56.trans hk7, ?_⟩
        clear hK' K'
        refine wpAnyS_done (by kernel_rfl) ?_ _
        gi_wp2
        exact ⟨hk56.trans hk7, ⟨rfl, _, ⟨r, by rw [hsplit, List.append_assoc]; rfl⟩, hjx7⟩, hk05.trans (hk56.trans hk7)⟩
end Go.Proofs.Ytcghafdemklnnaa
