/- before: the index of the last of rising numbers that is not above x. -/
import Derived.Test.YtcghafdemklnnaaFind
import Derived.Test.YtcghafdemklnnaaBlk
namespace Go.Proofs.Ytcghafdemklnnaa
open Go.RowKit Go.Sort Go.Shelf

set_option maxHeartbeats 1000000 in
set_option maxRecDepth 100000 in
theorem before1_any (g : Nat) (cb : Array Value) (i : Nat) (y x : Int) (Bat Bx : Nat) (w : World) (eg : ∀ args w, (callFunc g args).run Try.prog w = .ok (.enter g args) w) (hi : i < 4611686018427387904)
    (hat : w.cell? ⟨Bat, 0, none⟩ = some (.func (.func g) #[] cb)) (hx : w.cell? ⟨Bx, 0, none⟩ = some (.int .i64 x))
    (hf : Hid (∀ (W : World), Below w.heap.size w W → Calls Try.prog g (#[.int .i64 ((i : Int) + 1)] ++ cb) W fun e w' => e = .returned (.int .i64 y) ∧ Below W.heap.size W w')) :
    Calls Try.prog 96 #[.int .i64 i, .pointer (some ⟨Bat, 0, none⟩), .pointer (some ⟨Bx, 0, none⟩)] w fun e w' => e = .returned (.bool (decide (x < y))) ∧ Below w.heap.size w w' := by
  have hat' := fun d os => cell_regrown hat d os
  have hx' := fun d os => cell_regrown hx d os
  have h63 : (i : Int) + 1 ≤ 4611686018427387904 := by omega
  have hwr : IntKind.i64.wrap ((i : Int) + 1) = (i : Int) + 1 := IntWalk.i64_in _ (by omega)
  go_enter Try.func96, Try.ntmps96
  go_wp2
  refine wp_region_quiet_below (by kernel_rfl) (by kernel_rfl) ?_
  repeat (quiet_step (exact quiet_call hf.out))
  refine wpQuiet_nil ?_
  intro _ hw'
  obtain ⟨⟨dq, osq⟩, hw''⟩ := hw'
  subst hw''
  go_wp2
  go_ret
  exact ⟨rfl, below_regrown w dq osq⟩

set_option maxHeartbeats 1000000 in
set_option maxRecDepth 100000 in
theorem before_any (g : Nat) (cb : Array Value) (n : Nat) (f : Nat → Int) (c x : Int) (w : World) (eg : ∀ args w, (callFunc g args).run Try.prog w = .ok (.enter g args) w) (hsz : n < 1000) (hcn : Hid (c = (n : Int) + 2)) (hc1 : 2 ≤ c) (hc2 : c ≤ 1002)
    (hf : Hid (∀ (i : Nat) (W : World), i < n → Below w.heap.size w W → Calls Try.prog g (#[.int .i64 ((i : Int) + 1)] ++ cb) W fun e w' => e = .returned (.int .i64 (f (i + 1))) ∧ Below W.heap.size W w'))
    (hmono : Hid (∀ a b, a ≤ b → b < n → f (a + 1) ≤ f (b + 1))) :
    Calls Try.prog 91 #[.int .i64 c, .func (.func g) #[] cb, .int .i64 x] w fun e w' => e = .returned (.int .i64 (plc f n x)) ∧ Below w.heap.size w w' := by
  go_enter Try.func91, Try.ntmps91
  go_wp2_with fail
  rw [show c - 2 = (n : Int) by have := hcn.out; omega]
  have hb0 : Below w.heap.size w ((w.alloc (.cells #[.func (.func g) #[] cb] 116)).alloc (.cells #[.int .i64 x] 3)) := ((Below.refl _ _).alloc (Nat.le_refl _) _).alloc (by simp) _
  have hc0 : ((w.alloc (.cells #[.func (.func g) #[] cb] 116)).alloc (.cells #[.int .i64 x] 3)).cell? ⟨w.heap.size, 0, none⟩ = some (.func (.func g) #[] cb) := by go_simp
  have hx0 : ((w.alloc (.cells #[.func (.func g) #[] cb] 116)).alloc (.cells #[.int .i64 x] 3)).cell? ⟨w.heap.size + 1, 0, none⟩ = some (.int .i64 x) := by go_simp
  have hz0 : ((w.alloc (.cells #[.func (.func g) #[] cb] 116)).alloc (.cells #[.int .i64 x] 3)).heap.size = w.heap.size + 2 := by simp
  generalize ((w.alloc (.cells #[.func (.func g) #[] cb] 116)).alloc (.cells #[.int .i64 x] 3)) = W0 at hb0 hc0 hx0 hz0 ⊢
  refine (Search_any 96 #[.pointer (some ⟨w.heap.size, 0, none⟩), .pointer (some ⟨w.heap.size + 1, 0, none⟩)] n (fun i => decide (x < f (i + 1))) W0 (enters_of Try.func96 (by kernel_rfl) rfl) (by omega)
    (Lib.hid fun i W hi hW => before1_any g cb i (f (i + 1)) x _ _ W eg (by omega) ((hW.cell (p := ⟨w.heap.size, 0, none⟩) (by simp only; omega)).trans hc0) ((hW.cell (p := ⟨w.heap.size + 1, 0, none⟩) (by simp only; omega)).trans hx0)
      (Lib.hid fun W' hW' => hf.out i W' hi ((hb0.trans (hW.mono (by omega))).trans (hW'.mono (Nat.le_trans hb0.size hW.size)))))
    (Lib.hid fun a b hab hbn ha => by have := hmono.out a b hab hbn; simp only [decide_eq_true_eq] at ha ⊢; omega)).mono ?_
  rintro e w1 ⟨r, rfl, ⟨hr1, hr2, hr3⟩, hb1⟩
  have hr := Lib.hid (plc_unique hr1 (fun j hj => by have := hr2 j hj; simpa using this) (fun h => by simpa using hr3 h))
  clear hr1 hr2 hr3 hc0 hx0
  go_wp2
  go_ret
  exact ⟨ret_int (by rw [← hr.out]), hb0.trans (hb1.mono (by omega))⟩

/-- the slice in block b holds these ints -/
def Row (w : World) (b off : Nat) (xs : List Int) : Prop := b < w.heap.size ∧ ∀ j, j < xs.length → w.cell? ⟨b, off + j, none⟩ = some (.int .i64 (xs[j]?.getD 0))
theorem Row.below {w w' : World} {b off : Nat} {xs : List Int} (h : Row w b off xs) (hb : Below w.heap.size w w') : Row w' b off xs := ⟨Nat.lt_of_lt_of_le h.1 hb.size, fun j hj => (hb.cell (p := ⟨b, off + j, none⟩) h.1).trans (h.2 j hj)⟩

set_option maxHeartbeats 1000000 in
theorem find1_any (Ba b off cap : Nat) (xs : List Int) (i : Nat) (k y : Int) (w : World) (hk : Hid (k = (i : Int))) (hk0 : 0 ≤ k) (hi : k < xs.length) (hax : w.cell? ⟨Ba, 0, none⟩ = some (.slice (some ⟨b, off, none⟩) xs.length cap)) (hr : Row w b off xs) (hy : Hid (y = xs[i]?.getD 0)) :
    Calls Try.prog 94 #[.int .i64 k, .pointer (some ⟨Ba, 0, none⟩)] w fun e w' => e = .returned (.int .i64 y) ∧ Below w.heap.size w w' := by
  have hcell : w.cell? ⟨b, off + k.toNat, none⟩ = some (.int .i64 y) := by
    have := hr.2 i (by have := hk.out; omega)
    rw [hy.out, ← this, show k.toNat = i by have := hk.out; omega]
  clear hr
  go_enter Try.func94, Try.ntmps94
  go_wp2
  go_ret
  exact ⟨rfl, Below.refl _ _⟩

/-- strictly rising, read with getD -/
def Rising (xs : List Int) : Prop := ∀ a b, a < b → b < xs.length → xs[a]?.getD 0 < xs[b]?.getD 0
theorem Rising.le {xs : List Int} (h : Rising xs) {a b : Nat} (hab : a ≤ b) (hb : b < xs.length) : xs[a]?.getD 0 ≤ xs[b]?.getD 0 := by
  rcases Nat.lt_or_ge a b with h1 | h1
  · exact Int.le_of_lt (h a b h1 hb)
  · have : a = b := by omega
    subst this
    exact Int.le_refl _

/-- the place of x on an axis -/
def plcOf (xs : List Int) (x : Int) : Nat := plc (fun i => xs[i]?.getD 0) (xs.length - 2) x
theorem plcOf_lt {xs : List Int} (h : 2 ≤ xs.length) (x : Int) : plcOf xs x + 1 < xs.length := by
  have := (plc_spec (fun i => xs[i]?.getD 0) (xs.length - 2) x).1
  unfold plcOf
  omega

set_option maxHeartbeats 2000000 in
set_option maxRecDepth 100000 in
theorem find_any (b off cap : Nat) (xs : List Int) (x : Int) (w : World) (hlen : 2 ≤ xs.length) (hlen' : xs.length ≤ 1000) (hr : Row w b off xs) (hrise : Hid (Rising xs)) (hbd : Hid (∀ j : Nat, -1000000000 ≤ xs[j]?.getD 0 ∧ xs[j]?.getD 0 ≤ 1000000000)) (hx : -1000000000 ≤ x) (hx' : x ≤ 1000000000) :
    Calls Try.prog 87 #[.slice (some ⟨b, off, none⟩) xs.length cap, .int .i64 x] w fun e w' =>
      e = .returned (.agg #[.int .i64 (plcOf xs x), .int .i64 (x - xs[plcOf xs x]?.getD 0), .int .i64 (xs[plcOf xs x + 1]?.getD 0 - x)]) ∧ Below w.heap.size w w' := by
  go_enter Try.func87, Try.ntmps87
  go_wp2_with fail
  have hb0 : Below w.heap.size w ((w.alloc (.cells #[.slice (some ⟨b, off, none⟩) xs.length cap] 22)).alloc (.cells #[.int .i64 0, .int .i64 0, .int .i64 0] 114)) := ((Below.refl _ _).alloc (Nat.le_refl _) _).alloc (by simp) _
  have hc0 : ((w.alloc (.cells #[.slice (some ⟨b, off, none⟩) xs.length cap] 22)).alloc (.cells #[.int .i64 0, .int .i64 0, .int .i64 0] 114)).cell? ⟨w.heap.size, 0, none⟩ = some (.slice (some ⟨b, off, none⟩) xs.length cap) := by go_simp
  have hz0 : ((w.alloc (.cells #[.slice (some ⟨b, off, none⟩) xs.length cap] 22)).alloc (.cells #[.int .i64 0, .int .i64 0, .int .i64 0] 114)).heap.size = w.heap.size + 2 := by simp
  have hp0 : Blk ((w.alloc (.cells #[.slice (some ⟨b, off, none⟩) xs.length cap] 22)).alloc (.cells #[.int .i64 0, .int .i64 0, .int .i64 0] 114)) (w.heap.size + 1) 114 #[.int .i64 0, .int .i64 0, .int .i64 0] := by
    have := Blk.new (w.alloc (.cells #[.slice (some ⟨b, off, none⟩) xs.length cap] 22)) 114 #[.int .i64 0, .int .i64 0, .int .i64 0]
    rwa [World.size_alloc] at this
  generalize ((w.alloc (.cells #[.slice (some ⟨b, off, none⟩) xs.length cap] 22)).alloc (.cells #[.int .i64 0, .int .i64 0, .int .i64 0] 114)) = W0 at hb0 hc0 hz0 hp0 ⊢
  have hr0 : Row W0 b off xs := hr.below hb0
  refine (before_any 94 #[.pointer (some ⟨w.heap.size, 0, none⟩)] (xs.length - 2) (fun i => xs[i]?.getD 0) (xs.length : Int) x W0 (enters_of Try.func94 (by kernel_rfl) rfl) (by omega) (Lib.hid (by omega)) (by omega) (by omega)
    (Lib.hid fun i W hi hW => find1_any w.heap.size b off cap xs (i + 1) _ _ W (Lib.hid (by omega)) (by omega) (by omega) ((hW.cell (p := ⟨w.heap.size, 0, none⟩) (by simp only; omega)).trans hc0) (hr0.below hW) (Lib.hid rfl))
    (Lib.hid fun a b hab hb => hrise.out.le (by omega) (by omega))).mono ?_
  rintro e w1 ⟨rfl, hb1⟩
  have hc1 := (hb1.cell (p := ⟨w.heap.size, 0, none⟩) (by simp only; omega)).trans hc0
  have hp1 := hp0.below hb1 (by omega)
  have hr1 := hr0.below hb1
  have hlt := plcOf_lt hlen x
  have hcell0 := hr1.2 (plcOf xs x) (by omega)
  have hcell1 := hr1.2 (plcOf xs x + 1) hlt
  have hbd0 := hbd.out (plcOf xs x)
  have hbd1 := hbd.out (plcOf xs x + 1)
  rw [show plc (fun i => xs[i]?.getD 0) (xs.length - 2) x = plcOf xs x from rfl]
  have hfin : ∀ (r : Nat) (y0 y1 : Int), plcOf xs x = r → xs[plcOf xs x]?.getD 0 = y0 → xs[plcOf xs x + 1]?.getD 0 = y1 → Ending.returned (.agg #[.int .i64 (r : Int), .int .i64 (x - y0), .int .i64 (y1 - x)]) = .returned (.agg #[.int .i64 (plcOf xs x), .int .i64 (x - xs[plcOf xs x]?.getD 0), .int .i64 (xs[plcOf xs x + 1]?.getD 0 - x)]) := by
    rintro r y0 y1 rfl rfl rfl; rfl
  replace hfin := Lib.hid hfin
  generalize hy0 : xs[plcOf xs x]?.getD 0 = y0 at hcell0 hbd0 ⊢
  generalize hy1 : xs[plcOf xs x + 1]?.getD 0 = y1 at hcell1 hbd1 ⊢
  generalize hrr : plcOf xs x = r at hlt hcell0 hcell1 ⊢
  replace hfin := Lib.hid (hfin.out r y0 y1 hrr hy0 hy1)
  clear hy0 hy1 hrr
  have hB : Below w.heap.size w w1 := hb0.trans (hb1.mono (by omega))
  clear hr hr0 hr1 hc0 hp0 hb0 hb1 hz0
  have hq0 := hp1.cell 0
  have hq1 := hp1.cell 1
  have hq2 := hp1.cell 2
  simp at hq0 hq1 hq2
  have hf0 := hp1.frozen 0
  have hf1 := hp1.frozen 1
  have hf2 := hp1.frozen 2
  have hc1' := fun d os => cell_regrown hc1 d os
  have hcell0' := fun d os => cell_regrown hcell0 d os
  have hcell1' := fun d os => cell_regrown hcell1 d os
  have hw1 : IntKind.i64.wrap (x - y0) = x - y0 := IntWalk.i64_in _ (by omega)
  have hw2 : IntKind.i64.wrap (y1 - x) = y1 - x := IntWalk.i64_in _ (by omega)
  have hw3 : IntKind.i64.wrap ((r : Int) + 1) = (r : Int) + 1 := IntWalk.i64_in _ (by omega)
  have hr1 : (r : Int) < xs.length := by omega
  have hr2 : (r : Int) + 1 < xs.length := by omega
  have hr3 : 0 ≤ (r : Int) + 1 := by omega
  have hr4 : ((r : Int) + 1).toNat = r + 1 := by omega
  go_wp2
  refine wp_region_below_tail 15 (by kernel_rfl) (by kernel_rfl) ?_
  simp only [List.take_succ_cons, List.take_zero, List.drop_succ_cons, List.drop_zero]
  repeat (quiet_step (fail))
  refine wpQuiet_nil ?_
  intro _ hw'
  obtain ⟨⟨dq, osq⟩, hw''⟩ := hw'
  subst hw''
  have hb2 := below_regrown w1 dq osq
  have hp2 := hp1.below hb2 hp1.lt
  have hB2 : Below w.heap.size w (grow (redrawn w1 dq) osq) := hB.trans (hb2.mono hB.size)
  clear hc1 hcell0 hcell1 hc1' hcell0' hcell1' hw1 hw2 hw3 hr1 hr2 hr3 hr4 hq0 hq1 hq2 hf0 hf1 hf2 hb2 hp1 hB
  generalize grow (redrawn w1 dq) osq = W2 at hp2 hB2 ⊢
  have hq0 := hp2.cell 0
  have hq1 := hp2.cell 1
  have hq2 := hp2.cell 2
  simp at hq0 hq1 hq2
  have hf0 := hp2.frozen 0
  have hf1 := hp2.frozen 1
  have hf2 := hp2.frozen 2
  go_wp2
  refine bodyPost_ret (v := .agg #[.int .i64 r, .int .i64 (x - y0), .int .i64 (y1 - x)]) (by simp [results, Try.results87, go_sem, hq0, hq1, hq2]) rfl ⟨hfin.out, ?_⟩
  exact ((hB2.setCell (by simp) _).setCell (by simp) _).setCell (by simp) _
end Go.Proofs.Ytcghafdemklnnaa
