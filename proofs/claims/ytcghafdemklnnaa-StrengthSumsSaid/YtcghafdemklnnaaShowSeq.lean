/- showing hands on the strengths that show a number at the temperatures where what is shown bends. -/
import Derived.Test.YtcghafdemklnnaaShowing
namespace Go.Proofs.Ytcghafdemklnnaa
open Go.RowKit Go.Sort Go.Shelf
attribute [local go_sem] Oper.semAt_some

def showAt (T S : List Int) (Sh : List (List Int)) (x temp : Int) : Int × Int := (showNum T S Sh x temp, showDen T S Sh x temp)
def showingL (T S : List Int) (Sh : List (List Int)) (x xlo xhi : Int) : List (Int × Int) := (bendsL T xlo xhi).map fun y => showAt T S Sh x y
theorem showing_split {T S : List Int} {Sh : List (List Int)} {x xlo xhi y : Int} {pre rest : List Int} (h1 : bendsL T xlo xhi = pre ++ y :: rest) :
    ∃ r, showingL T S Sh x xlo xhi = (pre.map fun y => showAt T S Sh x y) ++ showAt T S Sh x y :: r := by
  unfold showingL
  rw [h1]
  simp only [List.map_append, List.map_cons]
  exact ⟨_, rfl⟩

set_option maxRecDepth 100000 in
set_option maxHeartbeats 4000000 in
theorem showing1_in (n l Bt Bx Bs tb toff tcap sb soff scap rb roff rcap : Nat) (v3 : Value) (T S : List Int) (Sh : List (List Int)) (xv xlo xhi : Int) (h3 : ∃ A l c, v3 = .slice A l c)
    (hT : Hid (AxisOk T (-500) 1000)) (hS : Hid (AxisOk S 0 10000)) (hg : Hid (ShowOk T S Sh)) (hx : Hid (Within T xlo ∧ Within T xhi))
    (D C : Nat → Prop) (hDC : Hid (∀ k, D k → ¬ C k)) (J Jx : List (Int × Int) → World → Prop) (W : World) (hC : Hid (∀ k, C k → k < W.heap.size)) (hJ : Hid (Stable W.heap.size J)) (hJx : Hid (Stable W.heap.size Jx))
    (hY : Hid (∀ pre x rest W1, showingL T S Sh xv xlo xhi = pre ++ x :: rest → J pre W1 → W.heap.size ≤ W1.heap.size → ∀ m, YieldAt Fence.wide m Try.prog l (encF x) W1 fun e W' =>
      Kept C W1 W' ∧ ((e = .returned (.bool true) ∧ J (pre ++ [x]) W') ∨ (e = .returned (.bool false) ∧ Jx (pre ++ [x]) W'))))
    (rT : RowD D W tb toff T) (rS : RowD D W sb soff S) (rG : GridD D W rb roff Sh)
    (bt : Blk W Bt 25 #[.slice (some ⟨tb, toff, none⟩) T.length tcap, .slice (some ⟨sb, soff, none⟩) S.length scap, .slice (some ⟨rb, roff, none⟩) Sh.length rcap, v3]) (bx : Blk W Bx 27 #[.int .i64 xlo, .int .i64 xhi]) (bs : Blk W Bs 3 #[.int .i64 xv])
    (dB : Hid (D Bt ∧ D Bx ∧ D Bs)) (h0 : J [] W) :
    CallsIn Fence.wide n Try.prog 79 #[.func (.yield l) #[] #[], .pointer (some ⟨Bt, 0, none⟩), .pointer (some ⟨Bx, 0, none⟩), .pointer (some ⟨Bs, 0, none⟩)] W fun e W' =>
      (∃ v, e = .returned v) ∧ (J (showingL T S Sh xv xlo xhi) W' ∨ ∃ pre, pre <+: showingL T S Sh xv xlo xhi ∧ Jx pre W') := by
  obtain ⟨A3, l3, c3, rfl⟩ := h3
  have hdd : ∀ k : Nat, (Fence.wide.depth.isSome = true → 1 ≤ k) := fun k h => (by cases h)
  refine callsIn_of_wp_marks Try.func79 rfl trivial ?_ rfl
  simp only [Try.ntmps79, List.size_toArray, List.length_cons, List.length_nil, Nat.reduceAdd, Nat.reduceSub, Array.replicate_succ, Array.replicate_zero, List.push_toArray, List.append_toArray, List.nil_append, List.cons_append]
  obtain ⟨t0, t1, t2, t3, _, _, _, _⟩ := bt.facts4
  obtain ⟨x0, x1, _, _⟩ := bx.facts2
  have ltt := bt.lt
  have ltx := bx.lt
  gi_wp2_with (refine ⟨trivial, hdd _, ?_⟩; gi_at_call 80; refine (bends_in Fence.wide _ trivial rfl _ _ _ ⟨_, _, _, rfl⟩ _).mono ?_; rintro e w' ⟨rfl, rfl⟩)
  have hz : (((W.alloc (Obj.cells #[Value.func (Fn.yield l) #[] #[]] 84)).alloc (Obj.cells #[Value.slice (some ⟨tb, toff, none⟩) T.length tcap] 22)).alloc (Obj.cells #[Value.int IntKind.i64 xlo, Value.int IntKind.i64 xhi] 27)).heap.size = W.heap.size + 3 := by simp
  have hBW : Below W.heap.size W (((W.alloc (Obj.cells #[Value.func (Fn.yield l) #[] #[]] 84)).alloc (Obj.cells #[Value.slice (some ⟨tb, toff, none⟩) T.length tcap] 22)).alloc (Obj.cells #[Value.int IntKind.i64 xlo, Value.int IntKind.i64 xhi] 27)) := (((Below.refl _ _).alloc (Nat.le_refl _) _).alloc (by simp) _).alloc (by simp; omega) _
  have bY : Blk (((W.alloc (Obj.cells #[Value.func (Fn.yield l) #[] #[]] 84)).alloc (Obj.cells #[Value.slice (some ⟨tb, toff, none⟩) T.length tcap] 22)).alloc (Obj.cells #[Value.int IntKind.i64 xlo, Value.int IntKind.i64 xhi] 27)) W.heap.size 84 #[.func (.yield l) #[] #[]] := ((Blk.new W _ _).alloc _).alloc _
  have bA : Blk (((W.alloc (Obj.cells #[Value.func (Fn.yield l) #[] #[]] 84)).alloc (Obj.cells #[Value.slice (some ⟨tb, toff, none⟩) T.length tcap] 22)).alloc (Obj.cells #[Value.int IntKind.i64 xlo, Value.int IntKind.i64 xhi] 27)) (W.heap.size + 1) 22 #[.slice (some ⟨tb, toff, none⟩) T.length tcap] := (blk_at (by simp)).alloc _
  have bP : Blk (((W.alloc (Obj.cells #[Value.func (Fn.yield l) #[] #[]] 84)).alloc (Obj.cells #[Value.slice (some ⟨tb, toff, none⟩) T.length tcap] 22)).alloc (Obj.cells #[Value.int IntKind.i64 xlo, Value.int IntKind.i64 xhi] 27)) (W.heap.size + 1 + 1) 27 #[.int .i64 xlo, .int .i64 xhi] := blk_at (by simp)
  generalize (((W.alloc (Obj.cells #[Value.func (Fn.yield l) #[] #[]] 84)).alloc (Obj.cells #[Value.slice (some ⟨tb, toff, none⟩) T.length tcap] 22)).alloc (Obj.cells #[Value.int IntKind.i64 xlo, Value.int IntKind.i64 xhi] 27)) = W0 at hz hBW bY bA bP ⊢
  obtain ⟨bA0, _⟩ := bA.facts1
  obtain ⟨bP0, bP1, _, _⟩ := bP.facts2
  have hC0 : ∀ k, C k → k < W0.heap.size := fun k hk => by have := hC.out k hk; omega
  have hnC : ∀ k, W.heap.size ≤ k → ¬ C k := fun k hk hc => by have := hC.out k hc; omega
  refine range_outer (w0 := W0) (F := Fence.wide) (gf := 86) (lb := #[.pointer (some ⟨W.heap.size + 1 + 1, 0, none⟩), .pointer (some ⟨W.heap.size + 1, 0, none⟩)]) rfl rfl rfl trivial (enters_of Try.func86 (by kernel_rfl) rfl)
    (bends_seq Fence.wide trivial rfl rfl (W.heap.size + 1 + 1) (W.heap.size + 1) tb toff tcap T xlo xhi (by have := hT.out.most; omega) (fun k => k = tb ∨ k = W.heap.size + 1 ∨ k = W.heap.size + 1 + 1) W0 ⟨by omega, .inr (.inr rfl)⟩ ⟨by omega, .inr (.inl rfl)⟩ ⟨by have := rT.1.1; omega, .inl rfl⟩ bP0 bP1 bA0 (rT.1.below hBW).2)
    (Below.refl _ _) (fun _ => rfl) C hC0
    (fun k hk => by
      rcases hk with rfl | rfl | rfl
      · exact ⟨by have := rT.1.1; omega, hDC.out _ rT.2⟩
      · exact ⟨by omega, hnC _ (by omega)⟩
      · exact ⟨by omega, hnC _ (by omega)⟩)
    (fun pre W' => J (pre.map fun y => showAt T S Sh xv y) W' ∧ Kept C W0 W') (fun c pre W' => c = .ret ∧ ∃ q, q <+: showingL T S Sh xv xlo xhi ∧ Jx q W')
    ?hI ?hIx ?h0 ?hround ?hdone ?hstop
  case hI => exact fun s a b hs hb => ⟨hJ.out _ _ _ hs.1 (hb.mono (by omega)), stable_kept (β := Unit) (Nat.le_refl _) () a b hs.2 hb⟩
  case hIx => exact fun c s a b hs hb => ⟨hs.1, by obtain ⟨q, h1, h2⟩ := hs.2; exact ⟨q, h1, hJx.out _ _ _ h2 (hb.mono (by omega))⟩⟩
  case h0 => exact ⟨hJ.out _ _ _ h0 hBW, Kept.refl _ _⟩
  case hdone =>
    rintro Dd W' hd1 hd2 ⟨hj, hk⟩ hK
    gi_wp2
    refine ⟨by simp, .inl ⟨_, _, rfl, run_takeDeferred hK, ?_⟩⟩
    exact ⟨_, results_none rfl _ _ _, ⟨_, rfl⟩, .inl (hJ.out _ _ _ hj (below_putObj _ _ _ (by omega)))⟩
  case hstop =>
    rintro Dd c pre W' hd1 hd2 hpre ⟨rfl, q, hq, hjx⟩ hK
    gi_wp2
    refine ⟨by simp, .inl ⟨_, _, rfl, run_takeDeferred hK, ?_⟩⟩
    exact ⟨_, results_none rfl _ _ _, ⟨_, rfl⟩, .inr ⟨q, hq, hJx.out _ _ _ hjx (below_putObj _ _ _ (by omega))⟩⟩
  case hround =>
    rintro m lo pre y rest W1 K hlo1 hlo2 hpre ⟨hj1, hk1⟩ hK
    have hx1 : Within T y := bends_within hx.out.1 hx.out.2 (by rw [hpre]; simp)
    gi_wp2
    refine hK _ _ (Below.refl _ _) ?_
    intro W5 hz2 hk2 hrec ⟨hj5, hk05⟩
    clear hk2 hz2 hK
    gi_wp2_with fail
    have bY5 := bY.kept hk05 (hnC _ (by omega))
    have bt5 := (bt.below hBW bt.lt).kept hk05 (hDC.out _ dB.out.1)
    have bs5 := (bs.below hBW bs.lt).kept hk05 (hDC.out _ dB.out.2.2)
    refine wpIn_region_S (fun w' => Kept C W5 w') (by kernel_rfl) ?_
    refine wpAnyS_take (i := 0) (v := .func (.yield l) #[] #[]) (noDefB_spec (by kernel_rfl)) rfl (by kernel_rfl) (by kernel_rfl) (by kernel_rfl) (fun _ _ _ h => h) ⟨.inl ⟨rfl, fun w hw => ?_⟩, fun w hw => rfl⟩ (Kept.refl C W5).drew ?_
    · have h1 := ((bY5.kept hw (hnC _ (by omega))).facts1).1
      go_simp
    refine wpAnyS_take (i := 1) (v := .agg #[.slice (some ⟨tb, toff, none⟩) T.length tcap, .slice (some ⟨sb, soff, none⟩) S.length scap, .slice (some ⟨rb, roff, none⟩) Sh.length rcap, .slice A3 l3 c3]) (noDefB_spec (by kernel_rfl)) rfl (by kernel_rfl) (by kernel_rfl) (by kernel_rfl) (fun _ _ _ h => h) ⟨.inl ⟨rfl, fun w hw => ?_⟩, fun w hw => rfl⟩ (Kept.refl C W5).drew ?_
    · obtain ⟨h1, h2, h3, h4, _, _, _, _⟩ := (bt5.kept hw (hDC.out _ dB.out.1)).facts4
      go_simp
    refine wpAnyS_take (i := 2) (v := .int .i64 xv) (noDefB_spec (by kernel_rfl)) rfl (by kernel_rfl) (by kernel_rfl) (by kernel_rfl) (fun _ _ _ h => h) ⟨.inl ⟨rfl, fun w hw => ?_⟩, fun w hw => rfl⟩ (Kept.refl C W5).drew ?_
    · obtain ⟨h1, _⟩ := (bs5.kept hw (hDC.out _ dB.out.2.2)).facts1
      go_simp
    refine wpAnyS_take (i := 3) (v := .int .i64 y) (noDefB_spec (by kernel_rfl)) rfl (by kernel_rfl) (by kernel_rfl) (by kernel_rfl) (fun _ _ _ h => h) ⟨.inl ⟨rfl, fun w hw => ?_⟩, fun w hw => rfl⟩ (Kept.refl C W5).drew ?_
    · go_simp
    simp only [Act.put, List.setIfInBounds_toArray]
    have rT5 := (RowD.kept hDC.out (RowD.kept (C := C) hDC.out rT (Kept.of_below hBW)) hk05).1
    have rS5 := (RowD.kept hDC.out (RowD.kept (C := C) hDC.out rS (Kept.of_below hBW)) hk05).1
    have rG5 := (GridD.kept hDC.out (GridD.kept (C := C) hDC.out rG (Kept.of_below hBW)) hk05).grid
    refine wpAnyS_one (i := 4) (by kernel_rfl) ?_
    refine wpOpIn_step rfl (fun K' hK' => ?_)
    go_simp
    refine ⟨trivial, fun h => (by cases h), ?_⟩
    refine (CallsIn.inRound lo (callsIn_wide.2 (showingAt_any tb toff tcap sb soff scap rb roff rcap _ T S Sh xv y W5.drew ⟨_, _, _, rfl⟩ hT hS hg (Lib.hid hx1) rT5 rS5 rG5))).mono ?_
    rintro e w6 ⟨rfl, hb6⟩
    refine hK' _ _ ⟨(Kept.refl C W5).drew.trans (Kept.of_below hb6), ?_⟩
    obtain ⟨r, hsplit⟩ := showing_split (S := S) (Sh := Sh) (x := xv) hpre
    have hb56 : Below W.heap.size W5 w6 := (Below.refl _ _).drew.trans (hb6.mono (by have := hk05.size; simp only [World.drew]; omega))
    obtain ⟨fn, tmps, assign, body, hy, hR⟩ := hY.out _ _ r w6 hsplit (hJ.out _ _ _ hj5 hb56) (by have := hb56.size; have := hk05.size; omega) (m - 1)
    dsimp only [encF, showAt] at hy
    refine wpAnyS_one (i := 5) (by kernel_rfl) ?_
    refine wpOpIn_step rfl (fun K' hK' => ?_)
    simp only [Act.put, List.setIfInBounds_toArray]
    go_simp
    refine ⟨fun h => (by cases h), ?_⟩
    refine RoundIn.mono (F := Fence.wide.inRound lo) hR ?_
    clear hy hR
    have hk56 : Kept C W5 w6 := (Kept.refl C W5).drew.trans (Kept.of_below hb6)
    rintro e w7 ⟨hk7, ⟨rfl, hj7⟩ | ⟨rfl, hjx7⟩⟩
    · refine hK' _ _ ⟨hk56.trans hk7, ?_⟩
      clear hK' K'
      refine wpAnyS_one (i := 6) (by kernel_rfl) ?_
      refine wpOpIn_step rfl (fun K' hK' => ?_)
      simp only [Act.put, List.setIfInBounds_toArray]
      go_simp
      refine hK' _ _ ⟨hk56.trans hk7, ?_⟩
      clear hK' K'
      refine wpAnyS_done (by kernel_rfl) ?_ _
      gi_wp2
      exact ⟨hk56.trans hk7, by rw [List.map_append]; exact hj7, hk05.trans (hk56.trans hk7)⟩
    · refine hK' _ _ ⟨hk56.trans hk7, ?_⟩
      clear hK' K'
      refine wpAnyS_one (i := 6) (by kernel_rfl) ?_
      refine wpOpIn_step rfl (fun K' hK' => ?_)
      simp only [Act.put, List.setIfInBounds_toArray]
      go_simp
      refine hK' _ _ ⟨hk56.trans hk7, ?_⟩
      clear hK' K'
      refine wpAnyS_done (by kernel_rfl) ?_ _
      gi_wp2
      exact ⟨hk56.trans hk7, rfl, _, ⟨r, by rw [hsplit, List.append_assoc]; rfl⟩, hjx7⟩
end Go.Proofs.Ytcghafdemklnnaa
