/- StrengthNames: the chapter's examples, in any memory. -/
import Derived.Test.YtcghafdemklnnaaShown
import Derived.Test.YtcghafdemklnnaaAlive
import Derived.Test.YtcghafdemklnnaaLateOne
namespace Go.Proofs.Ytcghafdemklnnaa
open Go.RowKit Go.Sort
attribute [local go_sem] Oper.calm Oper.calmAt Oper.calmUpon

theorem ex_shown {slo shi xlo xhi a b k : Int} (h1 : FitsIn exS slo shi ∧ FitsIn exT xlo xhi) (h : ShownIs exT exS exSh exRm slo shi xlo xhi a b k) :
    a = (lowF exT exS exSh slo shi xlo xhi).1 / (lowF exT exS exSh slo shi xlo xhi).2 ∧ b = cdiv (highF exT exS exSh slo shi xlo xhi).1 (highF exT exS exSh slo shi xlo xhi).2 ∧ k = 0 := by
  rcases h with ⟨h0, _⟩ | ⟨_, ⟨h0, _⟩ | ⟨_, h2⟩⟩
  · exact absurd ex_ok h0
  · exact absurd h1 h0
  · exact h2
theorem ex_strong {lo hi xlo xhi a b k : Int} (h0 : lo ≤ hi) (h1 : FitsIn exT xlo xhi) (h2 : ¬ NoneIn exT exS exSh lo hi xlo xhi) (h : StrengthIs exT exS exSh exRm lo hi xlo xhi a b k) :
    a = (weakF exT exS exSh lo xlo xhi).1 / (weakF exT exS exSh lo xlo xhi).2 ∧ b = cdiv (strongF exT exS exSh hi xlo xhi).1 (strongF exT exS exSh hi xlo xhi).2 ∧ k = 0 := by
  rcases h with ⟨h3, _⟩ | ⟨_, _, ⟨h3, _⟩ | ⟨_, ⟨h3, _⟩ | ⟨_, h4⟩⟩⟩
  · exact absurd ⟨ex_ok, h0⟩ h3
  · exact absurd h1 h3
  · exact absurd h3 h2
  · exact h4
theorem ex_none {a b k : Int} (h : StrengthIs exT exS exSh exRm 11000 11000 200 200 a b k) : a = 0 ∧ b = 0 ∧ k = 4 := by
  have h1 : FitsIn exT 200 200 := by unfold FitsIn; decide
  have h2 : NoneIn exT exS exSh 11000 11000 200 200 := by unfold NoneIn; decide
  rcases h with ⟨h3, _⟩ | ⟨_, _, ⟨h3, _⟩ | ⟨_, ⟨_, h4⟩ | ⟨h3, _⟩⟩⟩
  · exact absurd ⟨ex_ok, by decide⟩ h3
  · exact absurd h1 h3
  · exact h4
  · exact absurd h2 h3
theorem ex_shown1 {a b k : Int} (h : ShownIs exT exS exSh exRm 5000 5000 200 200 a b k) : a = 5000 ∧ b = 5000 ∧ k = 0 := by
  obtain ⟨rfl, rfl, rfl⟩ := ex_shown (by unfold FitsIn; decide) h
  exact ⟨by decide, by decide, rfl⟩
theorem ex_shown2 {a b k : Int} (h : ShownIs exT exS exSh exRm 4000 4000 250 250 a b k) : a = 4220 ∧ b = 4220 ∧ k = 0 := by
  obtain ⟨rfl, rfl, rfl⟩ := ex_shown (by unfold FitsIn; decide) h
  exact ⟨by decide, by decide, rfl⟩
theorem ex_shown3 {a b k : Int} (h : ShownIs exT exS exSh exRm 4000 5000 200 300 a b k) : a = 4000 ∧ b = 5500 ∧ k = 0 := by
  obtain ⟨rfl, rfl, rfl⟩ := ex_shown (by unfold FitsIn; decide) h
  exact ⟨by decide, by decide, rfl⟩
theorem ex_strong4 {a b k : Int} (h : StrengthIs exT exS exSh exRm 4220 4220 250 250 a b k) : a = 4000 ∧ b = 4000 ∧ k = 0 := by
  obtain ⟨rfl, rfl, rfl⟩ := ex_strong (by decide) (by unfold FitsIn; decide) (by unfold NoneIn; decide) h
  exact ⟨by decide, by decide, rfl⟩
theorem ex_pure {a b k : Int} (h : PureIs 1000 1001 4000 4001 a b k) : a = 400 ∧ b = 401 ∧ k = 0 := by
  rcases h with ⟨h0, _⟩ | ⟨_, rfl, rfl, rfl⟩
  · exact absurd (by decide) h0
  · exact ⟨by decide, by decide, rfl⟩
theorem ex_mix0 {a b c d k : Int} (h : MixIs exPs 0 a b c d k) : a = 2000 ∧ b = 2000 ∧ c = 5000 ∧ d = 5000 ∧ k = 0 := by
  have h1 : ∀ p ∈ exPs, PartOk p := by decide
  rcases h with ⟨h0, _⟩ | ⟨_, ⟨h0, _⟩ | ⟨_, ⟨h0, _⟩ | ⟨_, ⟨h0, _⟩ | ⟨_, ⟨h0, _⟩ | ⟨_, rfl, rfl, rfl, rfl, rfl⟩⟩⟩⟩⟩
  · exact absurd h0 (by decide)
  · exact absurd h1 h0
  · exact absurd h0 (by decide)
  · exact absurd h0 (by decide)
  · exact absurd h0 (by decide)
  · exact ⟨by decide, by decide, by decide, by decide, rfl⟩
theorem ex_water1 {a k : Int} (h : WaterIs 1000 1000 6000 6000 4000 a k) : a = 500 ∧ k = 0 := by
  rcases h with ⟨h0, _⟩ | ⟨_, ⟨h0, _⟩ | ⟨_, ⟨h0, _⟩ | ⟨_, rfl, rfl⟩⟩⟩
  · exact absurd (by decide) h0
  · exact absurd (by decide) h0
  · exact absurd h0 (by decide)
  · exact ⟨by decide, rfl⟩
theorem ex_water2 {a k : Int} (h : WaterIs 990 1000 6000 6100 4000 a k) : a = 495 ∧ k = 0 := by
  rcases h with ⟨h0, _⟩ | ⟨_, ⟨h0, _⟩ | ⟨_, ⟨h0, _⟩ | ⟨_, rfl, rfl⟩⟩⟩
  · exact absurd (by decide) h0
  · exact absurd (by decide) h0
  · exact absurd h0 (by decide)
  · exact ⟨by decide, rfl⟩

theorem span_fixed {P : Program} {f : FuncId} {args : Array Value} {W : World} {p : Int → Int → Int → Prop} (a b k : Int) (hp : ∀ {a' b' k' : Int}, p a' b' k' → a' = a ∧ b' = b ∧ k' = k) (h : Calls P f args W (SpanErr p W)) :
    Calls P f args W fun e w' => e = .returned (.tuple #[.agg #[.int .i64 a, .int .i64 b], .int .i64 k]) ∧ Below W.heap.size W w' :=
  h.mono (by rintro e w' ⟨a', b', k', rfl, hp', hb⟩; obtain ⟨rfl, rfl, rfl⟩ := hp hp'; exact ⟨rfl, hb⟩)
theorem int_fixed {P : Program} {f : FuncId} {args : Array Value} {W : World} {p : Int → Int → Prop} (a k : Int) (hp : ∀ {a' k' : Int}, p a' k' → a' = a ∧ k' = k) (h : Calls P f args W (IntErr p W)) :
    Calls P f args W fun e w' => e = .returned (.tuple #[.int .i64 a, .int .i64 k]) ∧ Below W.heap.size W w' :=
  h.mono (by rintro e w' ⟨a', k', rfl, hp', hb⟩; obtain ⟨rfl, rfl⟩ := hp hp'; exact ⟨rfl, hb⟩)

set_option maxHeartbeats 16000000 in
set_option maxRecDepth 100000 in
theorem names_any (w : World) : Calls Try.prog 6 #[] w fun e w' => e = .returned (.bool true) ∧ Below w.heap.size w w' := by
  have hsm := Lib.hid sample_any
  have hon := Lib.hid one_any
  have hal := Lib.hid alive_any
  go_enter Try.func6, Try.ntmps6
  go_wp2_with fail
  refine (hsm.out _).mono ?_
  rintro e W1 ⟨b0, b1, b2, b3, rfl, ht, hB1⟩
  have hs1 := Lib.hid fun W (hb : Below W1.heap.size W1 W) => span_fixed 5000 5000 0 ex_shown1 (Shown_any _ _ _ _ 3 3 3 3 exT exS exSh exRm 5000 5000 200 200 W (Lib.hid (ht.below hb)))
  have hs2 := Lib.hid fun W (hb : Below W1.heap.size W1 W) => span_fixed 4220 4220 0 ex_shown2 (Shown_any _ _ _ _ 3 3 3 3 exT exS exSh exRm 4000 4000 250 250 W (Lib.hid (ht.below hb)))
  have hs3 := Lib.hid fun W (hb : Below W1.heap.size W1 W) => span_fixed 4000 5500 0 ex_shown3 (Shown_any _ _ _ _ 3 3 3 3 exT exS exSh exRm 4000 5000 200 300 W (Lib.hid (ht.below hb)))
  have hs4 := Lib.hid fun W (hb : Below W1.heap.size W1 W) => span_fixed 4000 4000 0 ex_strong4 (Strength_any _ _ _ _ 3 3 3 3 exT exS exSh exRm 4220 4220 250 250 W (Lib.hid (ht.below hb)) (by omega) (by omega) (by omega) (by omega))
  have hs5 := Lib.hid fun W (hb : Below W1.heap.size W1 W) => span_fixed 0 0 4 ex_none (Strength_any _ _ _ _ 3 3 3 3 exT exS exSh exRm 11000 11000 200 200 W (Lib.hid (ht.below hb)) (by omega) (by omega) (by omega) (by omega))
  have hpu := Lib.hid fun W => span_fixed 400 401 0 ex_pure (Pure_any 1000 1001 4000 4001 W)
  have hw1 := Lib.hid fun W => int_fixed 500 0 ex_water1 (Water_any 1000 1000 6000 6000 4000 W)
  have hw2 := Lib.hid fun W => int_fixed 495 0 ex_water2 (Water_any 990 1000 6000 6100 4000 W)
  clear ht
  dsimp only [exTab]
  go_upto_region 2 with fail
  have hR := Below.refl W1.heap.size W1
  refine wp_world (fun W => Below w.heap.size w W ∧ Below W1.heap.size W1 W ∧ Blk W W1.heap.size 25 #[.slice (some ⟨b0, 0, none⟩) 3 3, .slice (some ⟨b1, 0, none⟩) 3 3, .slice (some ⟨b2, 0, none⟩) 3 3, .slice (some ⟨b3, 0, none⟩) 3 3]) ⟨hB1.alloc hB1.size _, (Below.refl _ _).alloc (Nat.le_refl _) _, Blk.new _ _ _⟩ ?_
  clear hB1 hR
  rintro W2 ⟨hB, hc, bt⟩
  -- region 2
  obtain ⟨x0, x1, x2, x3, _, _, _, _⟩ := bt.facts4
  have x0' := fun d os => cell_regrown x0 d os
  have x1' := fun d os => cell_regrown x1 d os
  have x2' := fun d os => cell_regrown x2 d os
  have x3' := fun d os => cell_regrown x3 d os
  refine wp_region_one_late 7 6 2 27 #[.int .i64 0, .int .i64 0] (by kernel_rfl) (by kernel_rfl) (by kernel_rfl) ⟨_, rfl, rfl, rfl, fun a w => by kernel_rfl⟩ (by kernel_rfl) (by kernel_rfl) ?_
  simp only [List.take_succ_cons, List.take_zero, List.drop_succ_cons, List.drop_zero]
  repeat ((refine wpCalm_step (fun K hK => ?_)); go_simp; first | (refine hK _ ?_; clear hK K) | (apply Exists.intro; refine ⟨fun _ => ?_, hK _ ?_⟩; (first | (go_at_call 33; exact calm_call (fun W1 _ => hon.out _ W1)) | (go_at_call 16; exact calm_call (fun W1 h1 => hs1.out W1 (hc.trans (h1.mono hc.size))))); clear hK K))
  refine wpCalm_nil ?_
  intro w7 g2 hb7 hV hg
  simp only [Act.put, List.setIfInBounds_toArray, List.set_cons_zero, List.set_cons_succ]
  have hB7 := hB.trans (hb7.mono hB.size)
  have hc7 := hc.trans (hb7.mono hc.size)
  have nbt : W1.heap.size ≠ g2 := by have := bt.lt; omega
  replace bt := bt.below hb7 bt.lt
  have z1 := hB.size
  have z2 := hc.size
  clear x0 x1 x2 x3 x0' x1' x2' x3' hB hc hb7
  obtain ⟨y0, y1, y2, y3⟩ := hV.facts2
  go_upto_region 3 with fail
  refine wp_world (fun W => Below w.heap.size w W ∧ Below W1.heap.size W1 W ∧ Blk W W1.heap.size 25 #[.slice (some ⟨b0, 0, none⟩) 3 3, .slice (some ⟨b1, 0, none⟩) 3 3, .slice (some ⟨b2, 0, none⟩) 3 3, .slice (some ⟨b3, 0, none⟩) 3 3] ∧ Blk W g2 27 #[.int .i64 5000, .int .i64 5000]) ⟨(hB7.setCell (by simp only; omega) _).setCell (by simp only; omega) _, (hc7.setCell (by simp only; omega) _).setCell (by simp only; omega) _, (bt.far nbt _).far nbt _, (hV.set_ 0 _).set_ 1 _⟩ ?_
  clear hB7 hc7 hV y0 y1 y2 y3 hg z1 z2 nbt bt
  rintro W12 ⟨hB, hc, bt, b2_⟩
  -- region 3
  obtain ⟨x0, x1, x2, x3, _, _, _, _⟩ := bt.facts4
  have x0' := fun d os => cell_regrown x0 d os
  have x1' := fun d os => cell_regrown x1 d os
  have x2' := fun d os => cell_regrown x2 d os
  have x3' := fun d os => cell_regrown x3 d os
  refine wp_region_one_late 7 6 4 27 #[.int .i64 0, .int .i64 0] (by kernel_rfl) (by kernel_rfl) (by kernel_rfl) ⟨_, rfl, rfl, rfl, fun a w => by kernel_rfl⟩ (by kernel_rfl) (by kernel_rfl) ?_
  simp only [List.take_succ_cons, List.take_zero, List.drop_succ_cons, List.drop_zero]
  repeat ((refine wpCalm_step (fun K hK => ?_)); go_simp; first | (refine hK _ ?_; clear hK K) | (apply Exists.intro; refine ⟨fun _ => ?_, hK _ ?_⟩; (first | (go_at_call 33; exact calm_call (fun W1 _ => hon.out _ W1)) | (go_at_call 16; exact calm_call (fun W1 h1 => hs2.out W1 (hc.trans (h1.mono hc.size))))); clear hK K))
  refine wpCalm_nil ?_
  intro w7 g4 hb7 hV hg
  simp only [Act.put, List.setIfInBounds_toArray, List.set_cons_zero, List.set_cons_succ]
  have hB7 := hB.trans (hb7.mono hB.size)
  have hc7 := hc.trans (hb7.mono hc.size)
  have nbt : W1.heap.size ≠ g4 := by have := bt.lt; omega
  replace bt := bt.below hb7 bt.lt
  have nb2_ : g2 ≠ g4 := by have := b2_.lt; omega
  replace b2_ := b2_.below hb7 b2_.lt
  have z1 := hB.size
  have z2 := hc.size
  clear x0 x1 x2 x3 x0' x1' x2' x3' hB hc hb7
  obtain ⟨y0, y1, y2, y3⟩ := hV.facts2
  go_upto_region 4 with fail
  refine wp_world (fun W => Below w.heap.size w W ∧ Below W1.heap.size W1 W ∧ Blk W W1.heap.size 25 #[.slice (some ⟨b0, 0, none⟩) 3 3, .slice (some ⟨b1, 0, none⟩) 3 3, .slice (some ⟨b2, 0, none⟩) 3 3, .slice (some ⟨b3, 0, none⟩) 3 3] ∧ Blk W g2 27 #[.int .i64 5000, .int .i64 5000] ∧ Blk W g4 27 #[.int .i64 4220, .int .i64 4220]) ⟨(hB7.setCell (by simp only; omega) _).setCell (by simp only; omega) _, (hc7.setCell (by simp only; omega) _).setCell (by simp only; omega) _, (bt.far nbt _).far nbt _, (b2_.far nb2_ _).far nb2_ _, (hV.set_ 0 _).set_ 1 _⟩ ?_
  clear hB7 hc7 hV y0 y1 y2 y3 hg z1 z2 nbt nb2_ bt b2_
  rintro W13 ⟨hB, hc, bt, b2_, b4_⟩
  obtain ⟨x0, x1, x2, x3, _, _, _, _⟩ := bt.facts4
  go_wp2_with fail
  refine (hs3.out _ hc).mono ?_
  rintro e V4 ⟨rfl, hb⟩
  replace hc := hc.trans (hb.mono hc.size)
  replace hB := hB.trans (hb.mono hB.size)
  replace bt := bt.below hb bt.lt
  replace b2_ := b2_.below hb b2_.lt
  replace b4_ := b4_.below hb b4_.lt
  clear hb
  clear x0 x1 x2 x3
  go_upto_region 5 with fail
  refine wp_world (fun W => Below w.heap.size w W ∧ Below W1.heap.size W1 W ∧ Blk W W1.heap.size 25 #[.slice (some ⟨b0, 0, none⟩) 3 3, .slice (some ⟨b1, 0, none⟩) 3 3, .slice (some ⟨b2, 0, none⟩) 3 3, .slice (some ⟨b3, 0, none⟩) 3 3] ∧ Blk W g2 27 #[.int .i64 5000, .int .i64 5000] ∧ Blk W g4 27 #[.int .i64 4220, .int .i64 4220] ∧ Blk W V4.heap.size 27 #[.int .i64 4000, .int .i64 5500]) ⟨hB.alloc hB.size _, hc.alloc hc.size _, bt.alloc _, b2_.alloc _, b4_.alloc _, Blk.new _ _ _⟩ ?_
  clear hB hc bt b2_ b4_
  generalize V4.heap.size = g6
  rintro W14 ⟨hB, hc, bt, b2_, b4_, b6_⟩
  -- region 5
  obtain ⟨x0, x1, x2, x3, _, _, _, _⟩ := bt.facts4
  have x0' := fun d os => cell_regrown x0 d os
  have x1' := fun d os => cell_regrown x1 d os
  have x2' := fun d os => cell_regrown x2 d os
  have x3' := fun d os => cell_regrown x3 d os
  refine wp_region_one_late 7 6 8 27 #[.int .i64 0, .int .i64 0] (by kernel_rfl) (by kernel_rfl) (by kernel_rfl) ⟨_, rfl, rfl, rfl, fun a w => by kernel_rfl⟩ (by kernel_rfl) (by kernel_rfl) ?_
  simp only [List.take_succ_cons, List.take_zero, List.drop_succ_cons, List.drop_zero]
  repeat ((refine wpCalm_step (fun K hK => ?_)); go_simp; first | (refine hK _ ?_; clear hK K) | (apply Exists.intro; refine ⟨fun _ => ?_, hK _ ?_⟩; (first | (go_at_call 33; exact calm_call (fun W1 _ => hon.out _ W1)) | (go_at_call 18; exact calm_call (fun W1 h1 => hs4.out W1 (hc.trans (h1.mono hc.size))))); clear hK K))
  refine wpCalm_nil ?_
  intro w7 g8 hb7 hV hg
  simp only [Act.put, List.setIfInBounds_toArray, List.set_cons_zero, List.set_cons_succ]
  have hB7 := hB.trans (hb7.mono hB.size)
  have hc7 := hc.trans (hb7.mono hc.size)
  have nbt : W1.heap.size ≠ g8 := by have := bt.lt; omega
  replace bt := bt.below hb7 bt.lt
  have nb2_ : g2 ≠ g8 := by have := b2_.lt; omega
  replace b2_ := b2_.below hb7 b2_.lt
  have nb4_ : g4 ≠ g8 := by have := b4_.lt; omega
  replace b4_ := b4_.below hb7 b4_.lt
  have nb6_ : g6 ≠ g8 := by have := b6_.lt; omega
  replace b6_ := b6_.below hb7 b6_.lt
  have z1 := hB.size
  have z2 := hc.size
  clear x0 x1 x2 x3 x0' x1' x2' x3' hB hc hb7
  obtain ⟨y0, y1, y2, y3⟩ := hV.facts2
  go_upto_region 6 with fail
  refine wp_world (fun W => Below w.heap.size w W ∧ Below W1.heap.size W1 W ∧ Blk W W1.heap.size 25 #[.slice (some ⟨b0, 0, none⟩) 3 3, .slice (some ⟨b1, 0, none⟩) 3 3, .slice (some ⟨b2, 0, none⟩) 3 3, .slice (some ⟨b3, 0, none⟩) 3 3] ∧ Blk W g2 27 #[.int .i64 5000, .int .i64 5000] ∧ Blk W g4 27 #[.int .i64 4220, .int .i64 4220] ∧ Blk W g6 27 #[.int .i64 4000, .int .i64 5500] ∧ Blk W g8 27 #[.int .i64 4000, .int .i64 4000]) ⟨(hB7.setCell (by simp only; omega) _).setCell (by simp only; omega) _, (hc7.setCell (by simp only; omega) _).setCell (by simp only; omega) _, (bt.far nbt _).far nbt _, (b2_.far nb2_ _).far nb2_ _, (b4_.far nb4_ _).far nb4_ _, (b6_.far nb6_ _).far nb6_ _, (hV.set_ 0 _).set_ 1 _⟩ ?_
  clear hB7 hc7 hV y0 y1 y2 y3 hg z1 z2 nbt nb2_ nb4_ nb6_ bt b2_ b4_ b6_
  rintro W15 ⟨hB, hc, bt, b2_, b4_, b6_, b8_⟩
  -- region 6
  obtain ⟨x0, x1, x2, x3, _, _, _, _⟩ := bt.facts4
  have x0' := fun d os => cell_regrown x0 d os
  have x1' := fun d os => cell_regrown x1 d os
  have x2' := fun d os => cell_regrown x2 d os
  have x3' := fun d os => cell_regrown x3 d os
  refine wp_region_one_late 7 6 10 27 #[.int .i64 0, .int .i64 0] (by kernel_rfl) (by kernel_rfl) (by kernel_rfl) ⟨_, rfl, rfl, rfl, fun a w => by kernel_rfl⟩ (by kernel_rfl) (by kernel_rfl) ?_
  simp only [List.take_succ_cons, List.take_zero, List.drop_succ_cons, List.drop_zero]
  repeat ((refine wpCalm_step (fun K hK => ?_)); go_simp; first | (refine hK _ ?_; clear hK K) | (apply Exists.intro; refine ⟨fun _ => ?_, hK _ ?_⟩; (first | (go_at_call 33; exact calm_call (fun W1 _ => hon.out _ W1)) | (go_at_call 18; exact calm_call (fun W1 h1 => hs5.out W1 (hc.trans (h1.mono hc.size))))); clear hK K))
  refine wpCalm_nil ?_
  intro w7 g10 hb7 hV hg
  simp only [Act.put, List.setIfInBounds_toArray, List.set_cons_zero, List.set_cons_succ]
  have hB7 := hB.trans (hb7.mono hB.size)
  have hc7 := hc.trans (hb7.mono hc.size)
  have nbt : W1.heap.size ≠ g10 := by have := bt.lt; omega
  replace bt := bt.below hb7 bt.lt
  have nb2_ : g2 ≠ g10 := by have := b2_.lt; omega
  replace b2_ := b2_.below hb7 b2_.lt
  have nb4_ : g4 ≠ g10 := by have := b4_.lt; omega
  replace b4_ := b4_.below hb7 b4_.lt
  have nb6_ : g6 ≠ g10 := by have := b6_.lt; omega
  replace b6_ := b6_.below hb7 b6_.lt
  have nb8_ : g8 ≠ g10 := by have := b8_.lt; omega
  replace b8_ := b8_.below hb7 b8_.lt
  have z1 := hB.size
  have z2 := hc.size
  clear x0 x1 x2 x3 x0' x1' x2' x3' hB hc hb7
  obtain ⟨y0, y1, y2, y3⟩ := hV.facts2
  go_upto_region 7 with fail
  refine wp_world (fun W => Below w.heap.size w W ∧ Below W1.heap.size W1 W ∧ Blk W W1.heap.size 25 #[.slice (some ⟨b0, 0, none⟩) 3 3, .slice (some ⟨b1, 0, none⟩) 3 3, .slice (some ⟨b2, 0, none⟩) 3 3, .slice (some ⟨b3, 0, none⟩) 3 3] ∧ Blk W g2 27 #[.int .i64 5000, .int .i64 5000] ∧ Blk W g4 27 #[.int .i64 4220, .int .i64 4220] ∧ Blk W g6 27 #[.int .i64 4000, .int .i64 5500] ∧ Blk W g8 27 #[.int .i64 4000, .int .i64 4000] ∧ Blk W g10 27 #[.int .i64 0, .int .i64 0]) ⟨(hB7.setCell (by simp only; omega) _).setCell (by simp only; omega) _, (hc7.setCell (by simp only; omega) _).setCell (by simp only; omega) _, (bt.far nbt _).far nbt _, (b2_.far nb2_ _).far nb2_ _, (b4_.far nb4_ _).far nb4_ _, (b6_.far nb6_ _).far nb6_ _, (b8_.far nb8_ _).far nb8_ _, (hV.set_ 0 _).set_ 1 _⟩ ?_
  clear hB7 hc7 hV y0 y1 y2 y3 hg z1 z2 nbt nb2_ nb4_ nb6_ nb8_ bt b2_ b4_ b6_ b8_
  rintro W16 ⟨hB, hc, bt, b2_, b4_, b6_, b8_, b10_⟩
  go_wp2_with fail
  refine (hpu.out _).mono ?_
  rintro e V7 ⟨rfl, hb⟩
  replace hc := hc.trans (hb.mono hc.size)
  replace hB := hB.trans (hb.mono hB.size)
  replace bt := bt.below hb bt.lt
  replace b2_ := b2_.below hb b2_.lt
  replace b4_ := b4_.below hb b4_.lt
  replace b6_ := b6_.below hb b6_.lt
  replace b8_ := b8_.below hb b8_.lt
  replace b10_ := b10_.below hb b10_.lt
  clear hb
  go_upto_region 8 with fail
  refine wp_world (fun W => Below w.heap.size w W ∧ Below W1.heap.size W1 W ∧ Blk W W1.heap.size 25 #[.slice (some ⟨b0, 0, none⟩) 3 3, .slice (some ⟨b1, 0, none⟩) 3 3, .slice (some ⟨b2, 0, none⟩) 3 3, .slice (some ⟨b3, 0, none⟩) 3 3] ∧ Blk W g2 27 #[.int .i64 5000, .int .i64 5000] ∧ Blk W g4 27 #[.int .i64 4220, .int .i64 4220] ∧ Blk W g6 27 #[.int .i64 4000, .int .i64 5500] ∧ Blk W g8 27 #[.int .i64 4000, .int .i64 4000] ∧ Blk W g10 27 #[.int .i64 0, .int .i64 0] ∧ Blk W V7.heap.size 27 #[.int .i64 400, .int .i64 401]) ⟨hB.alloc hB.size _, hc.alloc hc.size _, bt.alloc _, b2_.alloc _, b4_.alloc _, b6_.alloc _, b8_.alloc _, b10_.alloc _, Blk.new _ _ _⟩ ?_
  clear hB hc bt b2_ b4_ b6_ b8_ b10_
  generalize V7.heap.size = g12
  rintro W17 ⟨hB, hc, bt, b2_, b4_, b6_, b8_, b10_, b12_⟩
  go_wp2_with fail
  refine (hon.out _ _).mono ?_
  rintro e V80 ⟨rfl, hb⟩
  replace hc := hc.trans (hb.mono hc.size)
  replace hB := hB.trans (hb.mono hB.size)
  replace bt := bt.below hb bt.lt
  replace b2_ := b2_.below hb b2_.lt
  replace b4_ := b4_.below hb b4_.lt
  replace b6_ := b6_.below hb b6_.lt
  replace b8_ := b8_.below hb b8_.lt
  replace b10_ := b10_.below hb b10_.lt
  replace b12_ := b12_.below hb b12_.lt
  clear hb
  go_wp2_with fail
  refine (hon.out _ _).mono ?_
  rintro e V81 ⟨rfl, hb⟩
  replace hc := hc.trans (hb.mono hc.size)
  replace hB := hB.trans (hb.mono hB.size)
  replace bt := bt.below hb bt.lt
  replace b2_ := b2_.below hb b2_.lt
  replace b4_ := b4_.below hb b4_.lt
  replace b6_ := b6_.below hb b6_.lt
  replace b8_ := b8_.below hb b8_.lt
  replace b10_ := b10_.below hb b10_.lt
  replace b12_ := b12_.below hb b12_.lt
  clear hb
  go_wp2_with fail
  refine (hon.out _ _).mono ?_
  rintro e V82 ⟨rfl, hb⟩
  replace hc := hc.trans (hb.mono hc.size)
  replace hB := hB.trans (hb.mono hB.size)
  replace bt := bt.below hb bt.lt
  replace b2_ := b2_.below hb b2_.lt
  replace b4_ := b4_.below hb b4_.lt
  replace b6_ := b6_.below hb b6_.lt
  replace b8_ := b8_.below hb b8_.lt
  replace b10_ := b10_.below hb b10_.lt
  replace b12_ := b12_.below hb b12_.lt
  clear hb
  go_wp2_with fail
  refine (hon.out _ _).mono ?_
  rintro e V83 ⟨rfl, hb⟩
  replace hc := hc.trans (hb.mono hc.size)
  replace hB := hB.trans (hb.mono hB.size)
  replace bt := bt.below hb bt.lt
  replace b2_ := b2_.below hb b2_.lt
  replace b4_ := b4_.below hb b4_.lt
  replace b6_ := b6_.below hb b6_.lt
  replace b8_ := b8_.below hb b8_.lt
  replace b10_ := b10_.below hb b10_.lt
  replace b12_ := b12_.below hb b12_.lt
  clear hb
  go_wp2_with fail
  refine calls_world (fun W => Below w.heap.size w W ∧ Below W1.heap.size W1 W ∧ Blk W W1.heap.size 25 #[.slice (some ⟨b0, 0, none⟩) 3 3, .slice (some ⟨b1, 0, none⟩) 3 3, .slice (some ⟨b2, 0, none⟩) 3 3, .slice (some ⟨b3, 0, none⟩) 3 3] ∧ Blk W g2 27 #[.int .i64 5000, .int .i64 5000] ∧ Blk W g4 27 #[.int .i64 4220, .int .i64 4220] ∧ Blk W g6 27 #[.int .i64 4000, .int .i64 5500] ∧ Blk W g8 27 #[.int .i64 4000, .int .i64 4000] ∧ Blk W g10 27 #[.int .i64 0, .int .i64 0] ∧ Blk W g12 27 #[.int .i64 400, .int .i64 401] ∧ Blk W V83.heap.size 41 #[.int .i64 1000, .int .i64 1000, .int .i64 6000, .int .i64 6000, .int .i64 1000, .int .i64 1000, .int .i64 4000, .int .i64 4000]) ⟨hB.alloc hB.size _, hc.alloc hc.size _, bt.alloc _, b2_.alloc _, b4_.alloc _, b6_.alloc _, b8_.alloc _, b10_.alloc _, b12_.alloc _, Blk.new _ _ _⟩ ?_
  clear hB hc bt b2_ b4_ b6_ b8_ b10_ b12_
  generalize V83.heap.size = gp
  rintro W88 ⟨hB, hc, bt, b2_, b4_, b6_, b8_, b10_, b12_, bp⟩
  have hps : PartsAt W88 (some ⟨gp, 0, none⟩) exPs := fun _ => ⟨gp, 0, rfl, bp.lt, fun i p hi => by
    have hlt : i < 2 := (List.getElem?_eq_some_iff.1 hi).1
    have hi' : i = 0 ∨ i = 1 := by omega
    rcases hi' with rfl | rfl <;> · cases hi; exact ⟨bp.cell _, bp.cell _, bp.cell _, bp.cell _⟩⟩
  have hmx := Lib.hid (Mix_any (Lib.hid divFor_small) (some ⟨gp, 0, none⟩) 2 exPs 0 W88 (by decide) (Lib.hid hps) (Lib.hid (fun _ _ => by decide)))
  clear hps
  refine hmx.out.mono ?_
  rintro e V8 ⟨a, b, c, d, k, rfl, hr, hb⟩
  obtain ⟨rfl, rfl, rfl, rfl, rfl⟩ := ex_mix0 hr
  replace hc := hc.trans (hb.mono hc.size)
  replace hB := hB.trans (hb.mono hB.size)
  replace bt := bt.below hb bt.lt
  replace b2_ := b2_.below hb b2_.lt
  replace b4_ := b4_.below hb b4_.lt
  replace b6_ := b6_.below hb b6_.lt
  replace b8_ := b8_.below hb b8_.lt
  replace b10_ := b10_.below hb b10_.lt
  replace b12_ := b12_.below hb b12_.lt
  clear hb hr hmx bp
  go_upto_region 9 with fail
  refine wp_world (fun W => Below w.heap.size w W ∧ Below W1.heap.size W1 W ∧ Blk W W1.heap.size 25 #[.slice (some ⟨b0, 0, none⟩) 3 3, .slice (some ⟨b1, 0, none⟩) 3 3, .slice (some ⟨b2, 0, none⟩) 3 3, .slice (some ⟨b3, 0, none⟩) 3 3] ∧ Blk W g2 27 #[.int .i64 5000, .int .i64 5000] ∧ Blk W g4 27 #[.int .i64 4220, .int .i64 4220] ∧ Blk W g6 27 #[.int .i64 4000, .int .i64 5500] ∧ Blk W g8 27 #[.int .i64 4000, .int .i64 4000] ∧ Blk W g10 27 #[.int .i64 0, .int .i64 0] ∧ Blk W g12 27 #[.int .i64 400, .int .i64 401] ∧ Blk W V8.heap.size 41 #[.int .i64 2000, .int .i64 2000, .int .i64 5000, .int .i64 5000]) ⟨hB.alloc hB.size _, hc.alloc hc.size _, bt.alloc _, b2_.alloc _, b4_.alloc _, b6_.alloc _, b8_.alloc _, b10_.alloc _, b12_.alloc _, Blk.new _ _ _⟩ ?_
  clear hB hc bt b2_ b4_ b6_ b8_ b10_ b12_
  generalize V8.heap.size = g14
  rintro W18 ⟨hB, hc, bt, b2_, b4_, b6_, b8_, b10_, b12_, b14_⟩
  go_wp2_with fail
  refine (hon.out _ _).mono ?_
  rintro e V90 ⟨rfl, hb⟩
  replace hc := hc.trans (hb.mono hc.size)
  replace hB := hB.trans (hb.mono hB.size)
  replace bt := bt.below hb bt.lt
  replace b2_ := b2_.below hb b2_.lt
  replace b4_ := b4_.below hb b4_.lt
  replace b6_ := b6_.below hb b6_.lt
  replace b8_ := b8_.below hb b8_.lt
  replace b10_ := b10_.below hb b10_.lt
  replace b12_ := b12_.below hb b12_.lt
  replace b14_ := b14_.below hb b14_.lt
  clear hb
  go_wp2_with fail
  refine (hon.out _ _).mono ?_
  rintro e V91 ⟨rfl, hb⟩
  replace hc := hc.trans (hb.mono hc.size)
  replace hB := hB.trans (hb.mono hB.size)
  replace bt := bt.below hb bt.lt
  replace b2_ := b2_.below hb b2_.lt
  replace b4_ := b4_.below hb b4_.lt
  replace b6_ := b6_.below hb b6_.lt
  replace b8_ := b8_.below hb b8_.lt
  replace b10_ := b10_.below hb b10_.lt
  replace b12_ := b12_.below hb b12_.lt
  replace b14_ := b14_.below hb b14_.lt
  clear hb
  go_wp2_with fail
  refine (hw1.out _).mono ?_
  rintro e V9 ⟨rfl, hb⟩
  replace hc := hc.trans (hb.mono hc.size)
  replace hB := hB.trans (hb.mono hB.size)
  replace bt := bt.below hb bt.lt
  replace b2_ := b2_.below hb b2_.lt
  replace b4_ := b4_.below hb b4_.lt
  replace b6_ := b6_.below hb b6_.lt
  replace b8_ := b8_.below hb b8_.lt
  replace b10_ := b10_.below hb b10_.lt
  replace b12_ := b12_.below hb b12_.lt
  replace b14_ := b14_.below hb b14_.lt
  clear hb
  go_wp2_with fail
  refine (hw2.out _).mono ?_
  rintro e V10 ⟨rfl, hb⟩
  replace hc := hc.trans (hb.mono hc.size)
  replace hB := hB.trans (hb.mono hB.size)
  replace bt := bt.below hb bt.lt
  replace b2_ := b2_.below hb b2_.lt
  replace b4_ := b4_.below hb b4_.lt
  replace b6_ := b6_.below hb b6_.lt
  replace b8_ := b8_.below hb b8_.lt
  replace b10_ := b10_.below hb b10_.lt
  replace b12_ := b12_.below hb b12_.lt
  replace b14_ := b14_.below hb b14_.lt
  clear hb
  go_upto_region 11 with fail
  clear hc bt b10_
  obtain ⟨fb2_0, fb2_1, _, _⟩ := b2_.facts2
  have hb2_0 := fun d os => cell_regrown fb2_0 d os
  have hb2_1 := fun d os => cell_regrown fb2_1 d os
  obtain ⟨fb4_0, fb4_1, _, _⟩ := b4_.facts2
  have hb4_0 := fun d os => cell_regrown fb4_0 d os
  have hb4_1 := fun d os => cell_regrown fb4_1 d os
  obtain ⟨fb6_0, fb6_1, _, _⟩ := b6_.facts2
  have hb6_0 := fun d os => cell_regrown fb6_0 d os
  have hb6_1 := fun d os => cell_regrown fb6_1 d os
  obtain ⟨fb8_0, fb8_1, _, _⟩ := b8_.facts2
  have hb8_0 := fun d os => cell_regrown fb8_0 d os
  have hb8_1 := fun d os => cell_regrown fb8_1 d os
  obtain ⟨fb12_0, fb12_1, _, _⟩ := b12_.facts2
  have hb12_0 := fun d os => cell_regrown fb12_0 d os
  have hb12_1 := fun d os => cell_regrown fb12_1 d os
  obtain ⟨fb14_0, fb14_1, fb14_2, fb14_3, _, _, _, _⟩ := b14_.facts4
  have hb14_0 := fun d os => cell_regrown fb14_0 d os
  have hb14_1 := fun d os => cell_regrown fb14_1 d os
  have hb14_2 := fun d os => cell_regrown fb14_2 d os
  have hb14_3 := fun d os => cell_regrown fb14_3 d os
  refine wp_region_quiet_below (by kernel_rfl) (by kernel_rfl) ?_
  repeat (quiet_step (first | (go_at_call 33; exact quiet_call (fun W1 _ => hon.out _ W1)) | (go_at_call 15; exact quiet_call (fun W1 _ => hal.out W1))))
  refine wpQuiet_nil ?_
  intro _ hw'
  obtain ⟨⟨dq, osq⟩, hw''⟩ := hw'
  subst hw''
  have hb := below_regrown V10 dq osq
  replace hB := hB.trans (hb.mono hB.size)
  replace b2_ := b2_.below hb b2_.lt
  replace b4_ := b4_.below hb b4_.lt
  replace b6_ := b6_.below hb b6_.lt
  replace b8_ := b8_.below hb b8_.lt
  replace b12_ := b12_.below hb b12_.lt
  replace b14_ := b14_.below hb b14_.lt
  clear fb2_0 hb2_0 fb2_1 hb2_1 fb4_0 hb4_0 fb4_1 hb4_1 fb6_0 hb6_0 fb6_1 hb6_1 fb8_0 hb8_0 fb8_1 hb8_1 fb12_0 hb12_0 fb12_1 hb12_1 fb14_0 hb14_0 fb14_1 hb14_1 fb14_2 hb14_2 fb14_3 hb14_3
  clear hb
  generalize grow (redrawn V10 dq) osq = W31 at *
  go_upto_region 12 with fail
  obtain ⟨fb2_0, fb2_1, _, _⟩ := b2_.facts2
  have hb2_0 := fun d os => cell_regrown fb2_0 d os
  have hb2_1 := fun d os => cell_regrown fb2_1 d os
  obtain ⟨fb4_0, fb4_1, _, _⟩ := b4_.facts2
  have hb4_0 := fun d os => cell_regrown fb4_0 d os
  have hb4_1 := fun d os => cell_regrown fb4_1 d os
  obtain ⟨fb6_0, fb6_1, _, _⟩ := b6_.facts2
  have hb6_0 := fun d os => cell_regrown fb6_0 d os
  have hb6_1 := fun d os => cell_regrown fb6_1 d os
  obtain ⟨fb8_0, fb8_1, _, _⟩ := b8_.facts2
  have hb8_0 := fun d os => cell_regrown fb8_0 d os
  have hb8_1 := fun d os => cell_regrown fb8_1 d os
  obtain ⟨fb12_0, fb12_1, _, _⟩ := b12_.facts2
  have hb12_0 := fun d os => cell_regrown fb12_0 d os
  have hb12_1 := fun d os => cell_regrown fb12_1 d os
  obtain ⟨fb14_0, fb14_1, fb14_2, fb14_3, _, _, _, _⟩ := b14_.facts4
  have hb14_0 := fun d os => cell_regrown fb14_0 d os
  have hb14_1 := fun d os => cell_regrown fb14_1 d os
  have hb14_2 := fun d os => cell_regrown fb14_2 d os
  have hb14_3 := fun d os => cell_regrown fb14_3 d os
  refine wp_region_quiet_below (by kernel_rfl) (by kernel_rfl) ?_
  repeat (quiet_step (first | (go_at_call 33; exact quiet_call (fun W1 _ => hon.out _ W1)) | (go_at_call 15; exact quiet_call (fun W1 _ => hal.out W1))))
  refine wpQuiet_nil ?_
  intro _ hw'
  obtain ⟨⟨dq, osq⟩, hw''⟩ := hw'
  subst hw''
  have hb := below_regrown W31 dq osq
  replace hB := hB.trans (hb.mono hB.size)
  replace b2_ := b2_.below hb b2_.lt
  replace b4_ := b4_.below hb b4_.lt
  replace b6_ := b6_.below hb b6_.lt
  replace b8_ := b8_.below hb b8_.lt
  replace b12_ := b12_.below hb b12_.lt
  replace b14_ := b14_.below hb b14_.lt
  clear fb2_0 hb2_0 fb2_1 hb2_1 fb4_0 hb4_0 fb4_1 hb4_1 fb6_0 hb6_0 fb6_1 hb6_1 fb8_0 hb8_0 fb8_1 hb8_1 fb12_0 hb12_0 fb12_1 hb12_1 fb14_0 hb14_0 fb14_1 hb14_1 fb14_2 hb14_2 fb14_3 hb14_3
  clear hb
  generalize grow (redrawn W31 dq) osq = W32 at *
  go_wp2
  go_ret
  exact ⟨rfl, hB⟩
end Go.Proofs.Ytcghafdemklnnaa