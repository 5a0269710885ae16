/- Strength, whatever the table and the spans are. -/
import Derived.Test.YtcghafdemklnnaaOk
import Derived.Test.YtcghafdemklnnaaLate
namespace Go.Proofs.Ytcghafdemklnnaa
open Go.RowKit Go.Sort
attribute [local go_sem] Oper.calm Oper.calmAt Oper.calmUpon

theorem bestF_mem {lt : Int × Int → Int × Int → Bool} : ∀ (l : List (Int × Int)) (a : Int × Int), (∀ p ∈ l, 0 < p.2) → l.foldl (stepF lt) a = a ∨ l.foldl (stepF lt) a ∈ l := by
  intro l
  induction l with
  | nil => intro a _; exact .inl rfl
  | cons x l ih =>
    intro a h
    simp only [List.foldl_cons]
    rcases ih (stepF lt a x) (fun p hp => h p (by simp [hp])) with e | e
    · rw [e]
      unfold stepF
      split
      · exact .inr (by simp)
      · exact .inl rfl
    · exact .inr (by simp [e])
theorem bestF_in {lt : Int × Int → Int × Int → Bool} {l : List (Int × Int)} (h0 : l ≠ []) (h : ∀ p ∈ l, 0 < p.2) : bestF lt l ∈ l := by
  obtain ⟨x, l, rfl⟩ : ∃ x l', l = x :: l' := by cases l with | nil => exact absurd rfl h0 | cons x l => exact ⟨x, l, rfl⟩
  unfold bestF
  simp only [List.foldl_cons]
  rw [show stepF lt (0, 0) x = x by simp [stepF]]
  rcases bestF_mem l x (fun p hp => h p (by simp [hp])) with e | e
  · rw [e]; simp
  · exact List.mem_cons_of_mem _ e
theorem corners_ne {T S : List Int} {rows : List (List Int)} {slo shi xlo xhi : Int} : cornersL T S rows slo shi xlo xhi ≠ [] := by
  simp [cornersL, bendsL]
theorem showing_ne {T S : List Int} {Sh : List (List Int)} {x xlo xhi : Int} : showingL T S Sh x xlo xhi ≠ [] := by
  simp [showingL, bendsL]
theorem low_ok {T S : List Int} {rows : List (List Int)} {slo shi xlo xhi : Int} (hT : AxisOk T (-500) 1000) (hS : AxisOk S 0 10000) (hg : GridOk T S rows) (hx : Within T xlo ∧ Within T xhi) (hs : Within S slo ∧ Within S shi) (lt : Int × Int → Int × Int → Bool) :
    FracOk (bestF lt (cornersL T S rows slo shi xlo xhi)) ∧ (bestF lt (cornersL T S rows slo shi xlo xhi)).2 ≤ 15000000 ∧ -33000000000000 * 2 ≤ (bestF lt (cornersL T S rows slo shi xlo xhi)).1 ∧ (bestF lt (cornersL T S rows slo shi xlo xhi)).1 ≤ 33000000000000 * 2 := by
  have hall : ∀ q ∈ cornersL T S rows slo shi xlo xhi, FracOk q ∧ q.2 ≤ 15000000 ∧ -33000000000000 * 2 ≤ q.1 ∧ q.1 ≤ 33000000000000 * 2 := by
    intro q hq
    obtain ⟨x, s, h5, h6, rfl⟩ := mem_corners hq
    exact val_ok hT hS hg (bends_within hx.1 hx.2 h5) (bends_within hs.1 hs.2 h6)
  exact hall _ (bestF_in corners_ne fun p hp => (hall p hp).1.2.2.1)
theorem weak_ok {T S : List Int} {Sh : List (List Int)} {x xlo xhi : Int} (hT : AxisOk T (-500) 1000) (hS : AxisOk S 0 10000) (hg : ShowOk T S Sh) (hx : Within T xlo ∧ Within T xhi) (lt : Int × Int → Int × Int → Bool) :
    FracOk (bestF lt (showingL T S Sh x xlo xhi)) := by
  have hall : ∀ q ∈ showingL T S Sh x xlo xhi, FracOk q := by
    intro q hq
    obtain ⟨y, h5, rfl⟩ := List.mem_map.1 hq
    exact (show_ok hT hS hg (bends_within hx.1 hx.2 h5)).1
  exact hall _ (bestF_in showing_ne fun p hp => (hall p hp).2.2.1)

def FitsIn (xs : List Int) (lo hi : Int) : Prop := lo ≤ hi ∧ xs[0]?.getD 0 ≤ lo ∧ hi ≤ xs[xs.length - 1]?.getD 0
theorem FitsIn.within {xs : List Int} {lo hi : Int} (h : FitsIn xs lo hi) : Within xs lo ∧ Within xs hi := ⟨⟨h.2.1, by have := h.1; have := h.2.2; omega⟩, ⟨by have := h.1; have := h.2.1; omega, h.2.2⟩⟩
def firstI (xs : List Int) : Int := xs[0]?.getD 0
def lastI (xs : List Int) : Int := xs[xs.length - 1]?.getD 0
theorem whole_within {xs : List Int} {lo hi : Int} (h : AxisOk xs lo hi) : Within xs (firstI xs) ∧ Within xs (lastI xs) := by
  have := h.rise.le (Nat.zero_le (xs.length - 1)) (by have := h.two; omega)
  exact ⟨⟨Int.le_refl _, this⟩, ⟨this, Int.le_refl _⟩⟩

/-- nothing in the table shows anything from lo to hi -/
def NoneIn (T S : List Int) (Sh : List (List Int)) (lo hi xlo xhi : Int) : Prop :=
  (highF T S Sh (firstI S) (lastI S) xlo xhi).1 * 1 < lo * (highF T S Sh (firstI S) (lastI S) xlo xhi).2 ∨ hi * (lowF T S Sh (firstI S) (lastI S) xlo xhi).2 < (lowF T S Sh (firstI S) (lastI S) xlo xhi).1 * 1
def StrengthIs (T S : List Int) (Sh Rm : List (List Int)) (lo hi xlo xhi a b k : Int) : Prop :=
  (¬ (TableOk T S Sh Rm ∧ lo ≤ hi) ∧ a = 0 ∧ b = 0 ∧ k = 1) ∨
  (TableOk T S Sh Rm ∧ lo ≤ hi ∧ ((¬ FitsIn T xlo xhi ∧ a = 0 ∧ b = 0 ∧ k = 2) ∨
  (FitsIn T xlo xhi ∧ ((NoneIn T S Sh lo hi xlo xhi ∧ a = 0 ∧ b = 0 ∧ k = 4) ∨
  (¬ NoneIn T S Sh lo hi xlo xhi ∧ a = (weakF T S Sh lo xlo xhi).1 / (weakF T S Sh lo xlo xhi).2 ∧ b = cdiv (strongF T S Sh hi xlo xhi).1 (strongF T S Sh hi xlo xhi).2 ∧ k = 0)))))

def SpanErr (p : Int → Int → Int → Prop) (w : World) (e : Ending) (w' : World) : Prop := ∃ a b k : Int, e = .returned (.tuple #[.agg #[.int .i64 a, .int .i64 b], .int .i64 k]) ∧ p a b k ∧ Below w.heap.size w w'

set_option maxHeartbeats 8000000 in
set_option maxRecDepth 100000 in
theorem Strength_any (A0 A1 A2 A3 : Option Addr) (c0 c1 c2 c3 : Nat) (T S : List Int) (Sh Rm : List (List Int)) (lo hi xlo xhi : Int) (w : World) (ht : Hid (TableAt w A0 A1 A2 A3 T S Sh Rm))
    (l1 : -9223372036854775808 ≤ lo) (l2 : lo ≤ 9223372036854775807) (l3 : -9223372036854775808 ≤ hi) (l4 : hi ≤ 9223372036854775807) :
    Calls Try.prog 18 #[.agg #[.slice A0 T.length c0, .slice A1 S.length c1, .slice A2 Sh.length c2, .slice A3 Rm.length c3], .agg #[.int .i64 lo, .int .i64 hi], .agg #[.int .i64 xlo, .int .i64 xhi]] w (SpanErr (StrengthIs T S Sh Rm lo hi xlo xhi) w) := by
  have hval := Lib.hid fun W (hb : Below w.heap.size w W) => validTable_any A0 A1 A2 A3 c0 c1 c2 c3 T S Sh Rm W (Lib.hid (ht.out.below hb))
  go_enter Try.func18, Try.ntmps18
  go_wp2_with fail
  refine calls_world (fun W => Below w.heap.size w W ∧ Blk W w.heap.size 25 #[.slice A0 T.length c0, .slice A1 S.length c1, .slice A2 Sh.length c2, .slice A3 Rm.length c3] ∧ Blk W (w.heap.size + 1) 27 #[.int .i64 lo, .int .i64 hi] ∧ Blk W (w.heap.size + 1 + 1) 27 #[.int .i64 xlo, .int .i64 xhi] ∧ Blk W (w.heap.size + 1 + 1 + 1) 27 #[.int .i64 0, .int .i64 0])
    ⟨((((Below.refl _ _).alloc (Nat.le_refl _) _).alloc (by simp) _).alloc (by simp; omega) _).alloc (by simp; omega) _, (((blk_at rfl).alloc _).alloc _).alloc _, ((blk_at (by simp)).alloc _).alloc _, (blk_at (by simp)).alloc _, blk_at (by simp)⟩ ?_
  rintro W0 ⟨hB0, b0, b1, b2, b3⟩
  refine (hval.out W0 hB0).mono ?_
  rintro e W1 ⟨r, rfl, hr, hb1⟩
  replace hr := Lib.hid hr
  have hB1 := hB0.trans (hb1.mono hB0.size)
  replace b0 := b0.below hb1 b0.lt
  replace b1 := b1.below hb1 b1.lt
  replace b2 := b2.below hb1 b2.lt
  replace b3 := b3.below hb1 b3.lt
  clear hb1 hB0 hval
  obtain ⟨y0, y1, _, _⟩ := b1.facts2
  obtain ⟨r0, r1, _, _⟩ := b3.facts2
  have n1 : w.heap.size + 1 + 1 + 1 < W1.heap.size := b3.lt
  have hfail : ∀ k : Int, StrengthIs T S Sh Rm lo hi xlo xhi 0 0 k → ∀ W', Below w.heap.size w W' → SpanErr (StrengthIs T S Sh Rm lo hi xlo xhi) w (.returned (.tuple #[.agg #[.int .i64 0, .int .i64 0], .int .i64 k])) W' := fun k h W' hb => ⟨0, 0, k, rfl, h, hb⟩
  replace hfail := Lib.hid hfail
  by_cases hok : TableOk T S Sh Rm
  · have hrt : r = true := hr.out.2 hok
    subst hrt
    clear hr
    obtain ⟨tb, toff, sb, soff, rb, roff, mb, moff, rfl, rfl, rfl, rfl, tab⟩ := tab_of (ht.out.below hB1) hok
    replace tab := Lib.hid tab
    clear ht
    have hvs := Lib.hid (validSpan_any lo hi)
    by_cases hsp : lo ≤ hi
    · have hsp' : decide (lo ≤ hi) = true := by simpa using hsp
      go_wp2_with fail
      refine (hvs.out _).mono ?_
      rintro e W2 ⟨rfl, hb2⟩
      have hB2 := hB1.trans (hb2.mono hB1.size)
      replace tab := Lib.hid (tab.out.below hb2)
      replace b0 := b0.below hb2 b0.lt
      replace b1 := b1.below hb2 b1.lt
      replace b2 := b2.below hb2 b2.lt
      replace b3 := b3.below hb2 b3.lt
      clear y0 y1 r0 r1 hb2 hB1 n1 hvs
      obtain ⟨y0, y1, _, _⟩ := b1.facts2
      obtain ⟨t0, t1, t2, t3, _, _, _, _⟩ := b0.facts4
      obtain ⟨x0, x1, _, _⟩ := b2.facts2
      obtain ⟨r0, r1, _, _⟩ := b3.facts2
      have n1 : w.heap.size + 1 + 1 + 1 < W2.heap.size := b3.lt
      have T2 := tab.out.oT.two
      have T32 := tab.out.oT.most
      have hft := Lib.hid fun W (hb : Below W2.heap.size W2 W) => fits_any xlo xhi tb toff c0 T W (by omega) (by omega) (tab.out.rT.below hb)
      by_cases hfi : FitsIn T xlo xhi
      · have hx := Lib.hid hfi.within
        have hs := Lib.hid (whole_within tab.out.oS)
        have S2 := tab.out.oS.two
        have S32 := tab.out.oS.most
        have hlow := low_ok tab.out.oT tab.out.oS (gridOk_show tab.out.sh) hx.out hs.out ltF
        have hhigh := low_ok tab.out.oT tab.out.oS (gridOk_show tab.out.sh) hx.out hs.out gtF
        have hweak := weak_ok (x := lo) tab.out.oT tab.out.oS tab.out.sh hx.out ltF
        have hstrong := weak_ok (x := hi) tab.out.oT tab.out.oS tab.out.sh hx.out gtF
        have hwh := fun W (hb : Below W2.heap.size W2 W) => whole_any sb soff c1 S W (by omega) (by omega) (tab.out.rS.below hb)
        have hex := fun W (hb : Below W2.heap.size W2 W) => extremes_any tb toff c0 sb soff c1 rb roff c2 (.slice (some ⟨rb, roff, none⟩) Sh.length c2) (.slice (some ⟨mb, moff, none⟩) Rm.length c3) T S Sh (firstI S) (lastI S) xlo xhi ⟨_, _, _, rfl⟩ ⟨_, _, _, rfl⟩ (Lib.hid tab.out.oT) (Lib.hid tab.out.oS) (Lib.hid (gridOk_show tab.out.sh)) hx hs W (tab.out.rT.below hb) (tab.out.rS.below hb) (tab.out.rSh.below hb)
        have hwk := fun W (hb : Below W2.heap.size W2 W) => show_best tb toff c0 sb soff c1 rb roff c2 (.slice (some ⟨mb, moff, none⟩) Rm.length c3) T S Sh lo xlo xhi ⟨_, _, _, rfl⟩ (Lib.hid tab.out.oT) (Lib.hid tab.out.oS) (Lib.hid tab.out.sh) hx W (tab.out.rT.below hb) (tab.out.rS.below hb) (tab.out.rSh.below hb) _ _ (.inl ⟨rfl, rfl⟩)
        have hsg := fun W (hb : Below W2.heap.size W2 W) => show_best tb toff c0 sb soff c1 rb roff c2 (.slice (some ⟨mb, moff, none⟩) Rm.length c3) T S Sh hi xlo xhi ⟨_, _, _, rfl⟩ (Lib.hid tab.out.oT) (Lib.hid tab.out.oS) (Lib.hid tab.out.sh) hx W (tab.out.rT.below hb) (tab.out.rS.below hb) (tab.out.rSh.below hb) _ _ (.inr ⟨rfl, rfl⟩)
        change ∀ W, Below W2.heap.size W2 W → Calls _ _ _ _ (fun e w' => e = .returned (.agg #[.int .i64 (firstI S), .int .i64 (lastI S)]) ∧ Below W.heap.size W w') at hwh
        have hfin : ∀ p q m n : Int × Int, lowF T S Sh (firstI S) (lastI S) xlo xhi = p → highF T S Sh (firstI S) (lastI S) xlo xhi = q → weakF T S Sh lo xlo xhi = m → strongF T S Sh hi xlo xhi = n →
            ((q.1 * 1 < lo * q.2 ∨ hi * p.2 < p.1 * 1) → StrengthIs T S Sh Rm lo hi xlo xhi 0 0 4) ∧ (¬ (q.1 * 1 < lo * q.2 ∨ hi * p.2 < p.1 * 1) → StrengthIs T S Sh Rm lo hi xlo xhi (m.1 / m.2) (cdiv n.1 n.2) 0) := by
          rintro p q m n rfl rfl rfl rfl
          exact ⟨fun h => .inr ⟨hok, hsp, .inr ⟨hfi, .inl ⟨h, rfl, rfl, rfl⟩⟩⟩, fun h => .inr ⟨hok, hsp, .inr ⟨hfi, .inr ⟨h, rfl, rfl, rfl⟩⟩⟩⟩
        change FracOk (lowF T S Sh (firstI S) (lastI S) xlo xhi) ∧ _ at hlow
        change FracOk (highF T S Sh (firstI S) (lastI S) xlo xhi) ∧ _ at hhigh
        change FracOk (weakF T S Sh lo xlo xhi) at hweak
        change FracOk (strongF T S Sh hi xlo xhi) at hstrong
        replace hlow := hlow.1
        replace hhigh := hhigh.1
        generalize hp : lowF T S Sh (firstI S) (lastI S) xlo xhi = p at hlow hex
        generalize hqq : highF T S Sh (firstI S) (lastI S) xlo xhi = q at hhigh hex
        generalize hm : weakF T S Sh lo xlo xhi = m at hweak hwk
        generalize hn : strongF T S Sh hi xlo xhi = n at hstrong hsg
        replace hfin := Lib.hid (hfin p q m n hp hqq hm hn)
        clear hp hqq hm hn
        obtain ⟨p1, p2⟩ := p
        obtain ⟨q1, q2⟩ := q
        obtain ⟨m1, m2⟩ := m
        obtain ⟨n1', n2⟩ := n
        unfold FracOk at hlow hhigh hweak hstrong
        dsimp only at hex hwk hsg hfin hlow hhigh hweak hstrong
        replace hwh := Lib.hid hwh
        replace hex := Lib.hid hex
        replace hwk := Lib.hid hwk
        replace hsg := Lib.hid hsg
        generalize firstI S = s0 at hwh hex
        generalize lastI S = s1 at hwh hex
        clear hx hs
        go_wp2_with fail
        refine (hft.out _ (Below.refl _ _)).mono ?_
        rintro e W3 ⟨r, rfl, hr, hb3⟩
        have hrt : r = true := hr.2 hfi
        subst hrt
        have hB3 := hB2.trans (hb3.mono hB2.size)
        replace b0 := b0.below hb3 b0.lt
        replace b1 := b1.below hb3 b1.lt
        replace b2 := b2.below hb3 b2.lt
        replace b3 := b3.below hb3 b3.lt
        clear hr y0 y1 t0 t1 t2 t3 x0 x1 r0 r1 hft
        obtain ⟨y0, y1, _, _⟩ := b1.facts2
        obtain ⟨t0, t1, t2, t3, _, _, _, _⟩ := b0.facts4
        obtain ⟨x0, x1, _, _⟩ := b2.facts2
        have t0' := fun d os => cell_regrown t0 d os
        have t1' := fun d os => cell_regrown t1 d os
        have t2' := fun d os => cell_regrown t2 d os
        have t3' := fun d os => cell_regrown t3 d os
        have x0' := fun d os => cell_regrown x0 d os
        have x1' := fun d os => cell_regrown x1 d os
        go_upto_region 5 with fail
        refine wp_region_two_late 11 10 8 9 77 77 #[.int .i64 0, .int .i64 0] #[.int .i64 0, .int .i64 0] (by kernel_rfl) (by kernel_rfl) (by kernel_rfl)
          ⟨_, rfl, rfl, rfl, fun a w => by kernel_rfl⟩ ⟨_, rfl, rfl, rfl, fun a w => by kernel_rfl⟩ (by decide) (by kernel_rfl) (by kernel_rfl) ?_
        simp only [List.take_succ_cons, List.take_zero, List.drop_succ_cons, List.drop_zero]
        repeat ((refine wpCalm_step (fun K hK => ?_)); go_simp; first | (refine hK _ ?_; clear hK K) | (apply Exists.intro; refine ⟨fun _ => ?_, hK _ ?_⟩; (first | (go_at_call 55; exact calm_call (fun W1 h1 => hwh.out W1 (hb3.trans (h1.mono hb3.size)))) | (go_at_call 50; exact calm_call (fun W1 h1 => hex.out W1 (hb3.trans (h1.mono hb3.size))))); clear hK K))
        refine wpCalm_nil ?_
        intro w1 g1 g2 hb4 hB1' hB2' hg1 hg2 hne
        simp only [Act.put, List.setIfInBounds_toArray, List.set_cons_zero, List.set_cons_succ]
        obtain ⟨k0, k1, k2, k3⟩ := hB1'.facts2
        obtain ⟨j0, j1, j2, j3⟩ := hB2'.facts2
        have n2' := hb4.size
        have n3 := b3.lt
        clear t0' t1' t2' t3' x0' x1'
        go_upto_region 6 with fail
        refine wp_world (fun W => Below w.heap.size w W ∧ Below W2.heap.size W2 W ∧ Blk W g1 77 #[.int .i64 p1, .int .i64 p2] ∧ Blk W g2 77 #[.int .i64 q1, .int .i64 q2] ∧ Blk W w.heap.size 25 #[.slice (some ⟨tb, toff, none⟩) T.length c0, .slice (some ⟨sb, soff, none⟩) S.length c1, .slice (some ⟨rb, roff, none⟩) Sh.length c2, .slice (some ⟨mb, moff, none⟩) Rm.length c3] ∧ Blk W (w.heap.size + 1) 27 #[.int .i64 lo, .int .i64 hi] ∧ Blk W (w.heap.size + 1 + 1) 27 #[.int .i64 xlo, .int .i64 xhi] ∧ Blk W (w.heap.size + 1 + 1 + 1) 27 #[.int .i64 0, .int .i64 0])
          ⟨((((hB3.trans (hb4.mono hB3.size)).setCell (by simp only; omega) _).setCell (by simp only; omega) _).setCell (by simp only; omega) _).setCell (by simp only; omega) _,
           ((((hb3.trans (hb4.mono hb3.size)).setCell (by simp only; have := hb3.size; omega) _).setCell (by simp only; have := hb3.size; omega) _).setCell (by simp only; have := hb3.size; omega) _).setCell (by simp only; have := hb3.size; omega) _,
           (((hB1'.set_ 0 _).set_ 1 _).far hne _).far hne _, (((hB2'.far (p := ⟨g1, 0, none⟩) hne.symm _).far (p := ⟨g1, 1, none⟩) hne.symm _).set_ 0 _).set_ 1 _,
           ((((b0.below hb4 b0.lt).far (by simp only; omega) _).far (by simp only; omega) _).far (by simp only; omega) _).far (by simp only; omega) _,
           ((((b1.below hb4 b1.lt).far (by simp only; omega) _).far (by simp only; omega) _).far (by simp only; omega) _).far (by simp only; omega) _,
           ((((b2.below hb4 b2.lt).far (by simp only; omega) _).far (by simp only; omega) _).far (by simp only; omega) _).far (by simp only; omega) _,
           ((((b3.below hb4 b3.lt).far (by simp only; omega) _).far (by simp only; omega) _).far (by simp only; omega) _).far (by simp only; omega) _⟩ ?_
        clear k0 k1 k2 k3 j0 j1 j2 j3 b0 b1 b2 b3 y0 y1 t0 t1 t2 t3 x0 x1 hB1' hB2' hb4 hB3 hb3 n1 n2' n3 hex hwh
        rintro W5 ⟨hB5, hb5, bg1, bg2, b0, b1, b2, b3⟩
        obtain ⟨y0, y1, _, _⟩ := b1.facts2
        obtain ⟨k0, k1, _, _⟩ := bg1.facts2
        obtain ⟨j0, j1, _, _⟩ := bg2.facts2
        obtain ⟨r0, r1, _, _⟩ := b3.facts2
        have l5 := Lib.hid fun W => less_big q1 q2 lo 1 W (by omega) (by omega) (by omega) (by omega) (.inr (by omega)) (by omega) (by omega) (by omega) (by omega) (.inl rfl)
        have l6 := Lib.hid fun W => less_big hi 1 p1 p2 W (by omega) (by omega) (by omega) (by omega) (.inl rfl) (by omega) (by omega) (by omega) (by omega) (.inr (by omega))
        by_cases d1 : q1 * 1 < lo * q2
        · have d1' : decide (q1 * 1 < lo * q2) = true := by simpa using d1
          have hnf := hfin.out.1 (.inl d1)
          go_wp2_with fail
          refine (l5.out _).mono ?_
          rintro e W6 ⟨rfl, hb6⟩
          have hB6 := hB5.trans (hb6.mono hB5.size)
          replace b3 := b3.below hb6 b3.lt
          have n6 := b3.lt
          clear y0 y1 k0 k1 j0 j1 r0 r1 hfin
          obtain ⟨r0, r1, _, _⟩ := b3.facts2
          replace hnf := Lib.hid hnf
          go_wp2_with fail
          refine bodyPost_ret (v := .tuple #[.agg #[.int .i64 0, .int .i64 0], .int .i64 4]) (by simp [results, Try.results18, go_sem, r0, r1]) rfl ?_
          exact hfail.out 4 hnf.out _ ((hB6.setCell (by simp only; omega) _).setCell (by simp only; omega) _)
        · have d1' : decide (q1 * 1 < lo * q2) = false := by simpa using d1
          go_wp2_with fail
          refine (l5.out _).mono ?_
          rintro e W6 ⟨rfl, hb6⟩
          have hB6 := hB5.trans (hb6.mono hB5.size)
          have hc6 := hb5.trans (hb6.mono hb5.size)
          replace b0 := b0.below hb6 b0.lt
          replace b1 := b1.below hb6 b1.lt
          replace b2 := b2.below hb6 b2.lt
          replace b3 := b3.below hb6 b3.lt
          replace bg1 := bg1.below hb6 bg1.lt
          clear y0 y1 k0 k1 j0 j1 r0 r1 bg2 hB5 hb5 hb6
          obtain ⟨y0, y1, _, _⟩ := b1.facts2
          obtain ⟨k0, k1, _, _⟩ := bg1.facts2
          go_wp2_with fail
          refine (l6.out _).mono ?_
          rintro e W7 ⟨rfl, hb7⟩
          have hB7 := hB6.trans (hb7.mono hB6.size)
          have hc7 := hc6.trans (hb7.mono hc6.size)
          replace b0 := b0.below hb7 b0.lt
          replace b1 := b1.below hb7 b1.lt
          replace b2 := b2.below hb7 b2.lt
          replace b3 := b3.below hb7 b3.lt
          clear y0 y1 k0 k1 bg1 hB6 hc6 hb7 l5 l6
          by_cases d2 : hi * p2 < p1 * 1
          · have d2' : decide (hi * p2 < p1 * 1) = true := by simpa using d2
            have hnf := Lib.hid (hfin.out.1 (.inr d2))
            have n6 := b3.lt
            clear hfin
            obtain ⟨r0, r1, _, _⟩ := b3.facts2
            go_wp2_with fail
            refine bodyPost_ret (v := .tuple #[.agg #[.int .i64 0, .int .i64 0], .int .i64 4]) (by simp [results, Try.results18, go_sem, r0, r1]) rfl ?_
            exact hfail.out 4 hnf.out _ ((hB7.setCell (by simp only; omega) _).setCell (by simp only; omega) _)
          · have d2' : decide (hi * p2 < p1 * 1) = false := by simpa using d2
            have hnf := Lib.hid (hfin.out.2 (fun h => by rcases h with h | h <;> omega))
            clear hfin hfail
            obtain ⟨y0, y1, _, _⟩ := b1.facts2
            obtain ⟨t0, t1, t2, t3, _, _, _, _⟩ := b0.facts4
            obtain ⟨x0, x1, _, _⟩ := b2.facts2
            go_wp2_with fail
            refine (hwk.out W7 hc7).mono ?_
            rintro e W8 ⟨v8, rfl, hb8, hw8⟩
            replace hw8 := Lib.hid hw8
            go_wp2_with fail
            refine hw8.out.mono ?_
            rintro e W9 ⟨rfl, hb9⟩
            replace hb9 := hb8.trans (hb9.mono hb8.size)
            have hB9 := hB7.trans (hb9.mono hB7.size)
            have hc9 := hc7.trans (hb9.mono hc7.size)
            replace b0 := b0.below hb9 b0.lt
            replace b1 := b1.below hb9 b1.lt
            replace b2 := b2.below hb9 b2.lt
            replace b3 := b3.below hb9 b3.lt
            clear y0 y1 t0 t1 t2 t3 x0 x1 hw8 hb8 hb9 hB7 hc7 hwk
            go_upto_region 9 with fail
            refine wp_world (fun W => Below w.heap.size w W ∧ Below W2.heap.size W2 W ∧ Blk W W9.heap.size 77 #[.int .i64 m1, .int .i64 m2] ∧ Blk W w.heap.size 25 #[.slice (some ⟨tb, toff, none⟩) T.length c0, .slice (some ⟨sb, soff, none⟩) S.length c1, .slice (some ⟨rb, roff, none⟩) Sh.length c2, .slice (some ⟨mb, moff, none⟩) Rm.length c3] ∧ Blk W (w.heap.size + 1) 27 #[.int .i64 lo, .int .i64 hi] ∧ Blk W (w.heap.size + 1 + 1) 27 #[.int .i64 xlo, .int .i64 xhi] ∧ Blk W (w.heap.size + 1 + 1 + 1) 27 #[.int .i64 0, .int .i64 0])
              ⟨hB9.alloc hB9.size _, hc9.alloc hc9.size _, Blk.new _ _ _, b0.alloc _, b1.alloc _, b2.alloc _, b3.alloc _⟩ ?_
            clear b0 b1 b2 b3 hB9 hc9
            generalize W9.heap.size = g3
            rintro W10 ⟨hB10, hc10, bm, b0, b1, b2, b3⟩
            obtain ⟨y0, y1, _, _⟩ := b1.facts2
            obtain ⟨t0, t1, t2, t3, _, _, _, _⟩ := b0.facts4
            obtain ⟨x0, x1, _, _⟩ := b2.facts2
            go_wp2_with fail
            refine (hsg.out W10 hc10).mono ?_
            rintro e W11 ⟨v11, rfl, hb11, hw11⟩
            replace hw11 := Lib.hid hw11
            go_wp2_with fail
            refine hw11.out.mono ?_
            rintro e W12 ⟨rfl, hb12⟩
            replace hb12 := hb11.trans (hb12.mono hb11.size)
            have hB12 := hB10.trans (hb12.mono hB10.size)
            replace bm := bm.below hb12 bm.lt
            replace b3 := b3.below hb12 b3.lt
            clear y0 y1 t0 t1 t2 t3 x0 x1 hw11 hb11 hb12 hB10 hc10 hsg b0 b1 b2
            go_upto_region 10 with fail
            refine wp_world (fun W => Below w.heap.size w W ∧ Blk W W12.heap.size 77 #[.int .i64 n1', .int .i64 n2] ∧ Blk W g3 77 #[.int .i64 m1, .int .i64 m2] ∧ Blk W (w.heap.size + 1 + 1 + 1) 27 #[.int .i64 0, .int .i64 0])
              ⟨hB12.alloc hB12.size _, Blk.new _ _ _, bm.alloc _, b3.alloc _⟩ ?_
            clear b3 hB12 bm
            generalize W12.heap.size = g4
            rintro W13 ⟨hB13, bn, bm, b3⟩
            obtain ⟨k0, k1, _, _⟩ := bm.facts2
            obtain ⟨j0, j1, _, _⟩ := bn.facts2
            have k0' := fun d os => cell_regrown k0 d os
            have k1' := fun d os => cell_regrown k1 d os
            have j0' := fun d os => cell_regrown j0 d os
            have j1' := fun d os => cell_regrown j1 d os
            have hfl := Lib.hid fun W => floor_any m1 m2 W (by omega) (by omega) (by omega) (by omega)
            have hcl := Lib.hid fun W => ceil_any n1' n2 W (by omega) (by omega) (by omega) (by omega)
            refine wp_region_below_tail 5 (by kernel_rfl) (by kernel_rfl) ?_
            simp only [List.take_succ_cons, List.take_zero, List.drop_succ_cons, List.drop_zero]
            repeat (quiet_step (first | (go_at_call 51; exact quiet_call (fun W1 _ => hfl.out W1)) | (go_at_call 52; exact quiet_call (fun W1 _ => hcl.out W1))))
            refine wpQuiet_nil ?_
            intro _ hw'
            obtain ⟨⟨dq, osq⟩, hw''⟩ := hw'
            subst hw''
            have hb14 := below_regrown W13 dq osq
            replace b3 := b3.below hb14 b3.lt
            have hB14 := hB13.trans (hb14.mono hB13.size)
            clear k0' k1' j0' j1' k0 k1 j0 j1 bm bn hb14 hB13
            generalize grow (redrawn W13 dq) osq = W14 at b3 hB14 ⊢
            obtain ⟨r0, r1, _, _⟩ := b3.facts2
            go_wp2
            refine bodyPost_ret (v := .tuple #[.agg #[.int .i64 (m1 / m2), .int .i64 (cdiv n1' n2)], .int .i64 0]) (by simp [results, Try.results18, go_sem, r0, r1]) rfl ?_
            exact ⟨_, _, 0, rfl, hnf.out, (hB14.setCell (by simp only; omega) _).setCell (by simp only; omega) _⟩
      · have hnf : StrengthIs T S Sh Rm lo hi xlo xhi 0 0 2 := .inr ⟨hok, hsp, .inl ⟨hfi, rfl, rfl, rfl⟩⟩
        go_wp2_with fail
        refine (hft.out _ (Below.refl _ _)).mono ?_
        rintro e W3 ⟨q, rfl, hq, hb3⟩
        have hqf : q = false := by cases q with | false => rfl | true => exact absurd (hq.1 rfl) hfi
        subst hqf
        have hB3 := hB2.trans (hb3.mono hB2.size)
        replace b3 := b3.below hb3 b3.lt
        clear hq y0 y1 t0 t1 t2 t3 x0 x1 r0 r1
        obtain ⟨r0, r1, _, _⟩ := b3.facts2
        go_wp2_with fail
        refine bodyPost_ret (v := .tuple #[.agg #[.int .i64 0, .int .i64 0], .int .i64 2]) (by simp [results, Try.results18, go_sem, r0, r1]) rfl ?_
        exact hfail.out 2 hnf _ ((hB3.setCell (by simp only; omega) _).setCell (by simp only; omega) _)
    · have hsp' : decide (lo ≤ hi) = false := by simpa using hsp
      have hnf : StrengthIs T S Sh Rm lo hi xlo xhi 0 0 1 := .inl ⟨fun h => hsp h.2, rfl, rfl, rfl⟩
      go_wp2_with fail
      refine (hvs.out _).mono ?_
      rintro e W2 ⟨rfl, hb2⟩
      have hB2 := hB1.trans (hb2.mono hB1.size)
      replace b3 := b3.below hb2 b3.lt
      clear y0 y1 r0 r1
      obtain ⟨r0, r1, _, _⟩ := b3.facts2
      go_wp2_with fail
      refine bodyPost_ret (v := .tuple #[.agg #[.int .i64 0, .int .i64 0], .int .i64 1]) (by simp [results, Try.results18, go_sem, r0, r1]) rfl ?_
      exact hfail.out 1 hnf _ ((hB2.setCell (by simp only; omega) _).setCell (by simp only; omega) _)
  · have hrf : r = false := by cases r with | false => rfl | true => exact absurd (hr.out.1 rfl) hok
    subst hrf
    clear hr ht
    have hnf : StrengthIs T S Sh Rm lo hi xlo xhi 0 0 1 := .inl ⟨fun h => hok h.1, rfl, rfl, rfl⟩
    go_wp2_with fail
    refine bodyPost_ret (v := .tuple #[.agg #[.int .i64 0, .int .i64 0], .int .i64 1]) (by simp [results, Try.results18, go_sem, r0, r1]) rfl ?_
    exact hfail.out 1 hnf _ ((hB1.setCell (by simp only; omega) _).setCell (by simp only; omega) _)
end Go.Proofs.Ytcghafdemklnnaa
