/- Mix: what it returns for all parts. -/
import Derived.Test.YtcghafdemklnnaaMix
namespace Go.Proofs.Ytcghafdemklnnaa
open Go.RowKit Go.Sort
attribute [local go_sem] Oper.calm Oper.calmAt Oper.calmUpon

def MixIs (ps : List PartV) (s a b c d k : Int) : Prop :=
  (64 < ps.length ∧ a = 0 ∧ b = 0 ∧ c = 0 ∧ d = 0 ∧ k = 3) ∨ (ps.length ≤ 64 ∧
  ((¬ (∀ p ∈ ps, PartOk p) ∧ a = 0 ∧ b = 0 ∧ c = 0 ∧ d = 0 ∧ k = 1) ∨ ((∀ p ∈ ps, PartOk p) ∧
  ((¬ (0 ≤ s ∧ s ≤ 1000) ∧ a = 0 ∧ b = 0 ∧ c = 0 ∧ d = 0 ∧ k = 2) ∨ ((0 ≤ s ∧ s ≤ 1000) ∧
  ((1099511627776 < sumI (·.ah) ps ∧ a = 0 ∧ b = 0 ∧ c = 0 ∧ d = 0 ∧ k = 11) ∨ (sumI (·.ah) ps ≤ 1099511627776 ∧
  ((sumI (·.al) ps = 0 ∧ a = 0 ∧ b = 0 ∧ c = 0 ∧ d = 0 ∧ k = 4) ∨
  (sumI (·.al) ps ≠ 0 ∧ a = mixAl (sumI (·.al) ps) s ∧ b = sumI (·.ah) ps ∧ c = mixSl (sumI (·.ah) ps) (sumI pureLo ps) ∧ d = mixSh (sumI (·.al) ps) (sumI pureHi ps) s ∧ k = 0)))))))))
def PartErr (p : Int → Int → Int → Int → Int → Prop) (w : World) (e : Ending) (w' : World) : Prop := ∃ a b c d k : Int, e = .returned (.tuple #[.agg #[.int .i64 a, .int .i64 b, .int .i64 c, .int .i64 d], .int .i64 k]) ∧ p a b c d k ∧ Below w.heap.size w w'

theorem sumI_le {f g : PartV → Int} : ∀ (ps : List PartV), (∀ p ∈ ps, f p ≤ g p) → sumI f ps ≤ sumI g ps
  | [], _ => by simp [sumI]
  | p :: ps, h => by
    have h1 := h p (by simp)
    have h2 := sumI_le ps (fun q hq => h q (by simp [hq]))
    simp only [sumI, List.map_cons, List.sum_cons] at h2 ⊢
    omega
theorem pure_le {p : PartV} (h : PartOk p) : pureLo p ≤ p.al ∧ pureHi p ≤ p.ah := by
  obtain ⟨⟨h1, h2, h3⟩, h4, h5, h6⟩ := h
  have e1 : p.al * p.sl ≤ p.al * 10000 := Int.mul_le_mul_of_nonneg_left (by omega) h2
  have e2 : p.ah * p.sh ≤ p.ah * 10000 := Int.mul_le_mul_of_nonneg_left h6 (by omega)
  have e4 : 0 ≤ p.ah * p.sh := Int.mul_nonneg (by omega) (by omega)
  unfold pureLo pureHi upDiv
  generalize p.al * p.sl = x at *
  generalize p.ah * p.sh = y at *
  split <;> omega

set_option maxHeartbeats 8000000 in
set_option maxRecDepth 100000 in
theorem Mix_any {M : Int} (hM : Hid (DivFor M)) (A : Option Addr) (c : Nat) (ps : List PartV) (s : Int) (w : World) (hn : ps.length ≤ 140737488355328) (hp : Hid (PartsAt w A ps))
    (hbig : Hid ((∀ p ∈ ps, PartOk p) → sumI (·.ah) ps ≤ 1099511627776 → sumI pureHi ps * 100000000 < M)) :
    Calls Try.prog 28 #[.slice A ps.length c, .int .i64 s] w (PartErr (MixIs ps s) w) := by
  have hfail : ∀ k : Int, MixIs ps s 0 0 0 0 k → ∀ W', Below w.heap.size w W' → PartErr (MixIs ps s) w (.returned (.tuple #[.agg #[.int .i64 0, .int .i64 0, .int .i64 0, .int .i64 0], .int .i64 k])) W' := fun k h W' hb => ⟨0, 0, 0, 0, k, rfl, h, hb⟩
  replace hfail := Lib.hid hfail
  by_cases c0 : 64 < ps.length
  · have c0' : (64 : Int) < ps.length := by omega
    have hnf := Lib.hid (show MixIs ps s 0 0 0 0 3 from .inl ⟨c0, rfl, rfl, rfl, rfl, rfl⟩)
    go_enter Try.func28, Try.ntmps28
    go_wp2
    refine ret_world (fun W => Below w.heap.size w W ∧ Blk W w.heap.size 41 #[.int .i64 0, .int .i64 0, .int .i64 0, .int .i64 0])
      ⟨(Below.refl _ _).alloc (Nat.le_refl _) _, Blk.new _ _ _⟩ ?_
    rintro W ⟨hB, b0⟩
    obtain ⟨x0, x1, x2, x3, _, _, _, _⟩ := b0.facts4
    refine bodyPost_ret (v := .tuple #[.agg #[.int .i64 0, .int .i64 0, .int .i64 0, .int .i64 0], .int .i64 3]) (by simp [results, Try.results28, go_sem, x0, x1, x2, x3]) rfl (hfail.out 3 hnf.out _ hB)
  · have c0' : (ps.length : Int) ≤ 64 := by omega
    go_enter Try.func28, Try.ntmps28
    go_wp2
    go_loopw [16] (fun i wr => ∃ k : Nat, k ≤ ps.length ∧ i = .int .i64 k ∧ Below w.heap.size w wr ∧ Blk wr w.heap.size 41 #[.int .i64 0, .int .i64 0, .int .i64 0, .int .i64 0] ∧ Hid (∀ j, j < k → ∀ p, ps[j]? = some p → PartOk p)) (fun i _ => ps.length - (intOf i).toNat)
    case atStart => exact ⟨0, Nat.zero_le _, rfl, (Below.refl _ _).alloc (Nat.le_refl _) _, Blk.new _ _ _, Lib.hid fun j hj => absurd hj (Nat.not_lt_zero _)⟩
    case round =>
      obtain ⟨k, hk, rfl, hB0, b0, hgood⟩ := hrel
      by_cases hlt : k < ps.length
      · obtain ⟨b, off, hA, hbl, hcells⟩ := hp.out (by omega)
        obtain ⟨p, hpk⟩ : ∃ p, ps[k]? = some p := ⟨_, List.getElem?_eq_getElem hlt⟩
        obtain ⟨k1, k2, k3, k4⟩ := hcells k p hpk
        have k1' := cell_later hB0 k1
        have k2' := cell_later hB0 k2
        have k3' := cell_later hB0 k3
        have k4' := cell_later hB0 k4
        have hnext : Hid (PartOk p → ∀ j, j < k + 1 → ∀ p, ps[j]? = some p → PartOk p) := Lib.hid fun h1 j hj q hq => by
          rcases Nat.lt_or_ge j k with h | h
          · exact hgood.out j h q hq
          · have : j = k := by omega
            subst this
            rw [hpk] at hq
            cases hq
            exact h1
        have hbad : Hid (¬ PartOk p → MixIs ps s 0 0 0 0 1) := Lib.hid fun h1 => .inr ⟨by omega, .inl ⟨fun h => h1 (h p (List.mem_of_getElem? hpk)), rfl, rfl, rfl, rfl, rfl⟩⟩
        clear hcells hpk k1 k2 k3 k4
        obtain ⟨al, ah, sl, sh⟩ := p
        dsimp only at k1' k2' k3' k4'
        have hv := Lib.hid fun W => validPart_any al ah sl sh W
        subst hA
        clear hp hbig
        go_wp2_with fail
        refine calls_world (fun W => Below w.heap.size w W ∧ Blk W w.heap.size 41 #[.int .i64 0, .int .i64 0, .int .i64 0, .int .i64 0]) ⟨hB0.alloc hB0.size _, b0.alloc _⟩ ?_
        clear b0 hB0 k1' k2' k3' k4'
        rintro W0 ⟨hB0, b0⟩
        refine (hv.out _).mono ?_
        rintro e W1 ⟨r, rfl, hr, hb1⟩
        have hB1 := hB0.trans (hb1.mono hB0.size)
        replace b0 := b0.below hb1 b0.lt
        clear hb1 hB0 hv
        cases r with
        | false =>
          have hnf := Lib.hid (hbad.out (fun h => Bool.noConfusion (hr.2 h)))
          obtain ⟨x0, x1, x2, x3, _, _, _, _⟩ := b0.facts4
          clear hr hbad hnext
          go_wp2_with fail
          refine bodyPost_ret (v := .tuple #[.agg #[.int .i64 0, .int .i64 0, .int .i64 0, .int .i64 0], .int .i64 1]) (by simp [results, Try.results28, go_sem, x0, x1, x2, x3]) rfl ?_
          exact hfail.out 1 hnf.out _ ((((hB1.setCell (by simp only; omega) _).setCell (by simp only; omega) _).setCell (by simp only; omega) _).setCell (by simp only; omega) _)
        | true =>
          have hnx := Lib.hid (hnext.out (hr.1 rfl))
          clear hr hbad hnext
          go_wp2_with fail
          go_roundw
          case rel => exact ⟨k + 1, by omega, by go_num, hB1, b0, hnx⟩
          case measure => simp [intOf]; omega
      · have hk' : k = ps.length := by omega
        subst hk'
        have hall : ∀ p ∈ ps, PartOk p := fun p hp => by
          obtain ⟨j, hj⟩ := List.mem_iff_getElem?.1 hp
          exact hgood.out j (List.getElem?_eq_some_iff.1 hj).1 p hj
        replace hall := Lib.hid hall
        clear hgood
        obtain ⟨x0, x1, x2, x3, _, _, _, _⟩ := b0.facts4
        by_cases c1 : 0 ≤ s ∧ s ≤ 1000
        · have hsu := Lib.hid fun W (hb : Below wr.heap.size wr W) => sums_any A c ps W (by omega) (Lib.hid ((hp.out.below hB0).below hb)) hall
          have hfin := Lib.hid (show ∀ a1 a2 a3 a4 : Int, sumI (·.al) ps = a1 → sumI (·.ah) ps = a2 → sumI pureLo ps = a3 → sumI pureHi ps = a4 → ((1099511627776 < a2 → MixIs ps s 0 0 0 0 11) ∧ (a2 ≤ 1099511627776 → a1 = 0 → MixIs ps s 0 0 0 0 4) ∧ (a2 ≤ 1099511627776 → a1 ≠ 0 → MixIs ps s (mixAl a1 s) a2 (mixSl a2 a3) (mixSh a1 a4 s) 0)) from by
            rintro _ _ _ _ rfl rfl rfl rfl
            have h0 : ps.length ≤ 64 := by omega
            exact ⟨fun h => .inr ⟨h0, .inr ⟨hall.out, .inr ⟨c1, .inl ⟨h, rfl, rfl, rfl, rfl, rfl⟩⟩⟩⟩, fun h h' => .inr ⟨h0, .inr ⟨hall.out, .inr ⟨c1, .inr ⟨h, .inl ⟨h', rfl, rfl, rfl, rfl, rfl⟩⟩⟩⟩⟩, fun h h' => .inr ⟨h0, .inr ⟨hall.out, .inr ⟨c1, .inr ⟨h, .inr ⟨h', rfl, rfl, rfl, rfl, rfl⟩⟩⟩⟩⟩⟩)
          have g1 := sumI_bd (f := (·.al)) (B := 1099511627776) (by omega) ps (fun q hq => by have := (hall.out q hq).1; exact ⟨by omega, by omega⟩)
          have g2 : sumI (·.al) ps ≤ sumI (·.ah) ps := sumI_le ps fun q hq => (hall.out q hq).1.1
          have g3 := sumI_bd (f := pureLo) (B := 1099511627776) (by omega) ps (fun q hq => by have := pure_bd (hall.out q hq); exact ⟨by omega, by omega⟩)
          have g4 := sumI_bd (f := pureHi) (B := 1099511627776) (by omega) ps (fun q hq => by have := pure_bd (hall.out q hq); exact ⟨by omega, by omega⟩)
          have g5 : sumI pureLo ps ≤ sumI (·.al) ps := sumI_le ps fun q hq => (pure_le (hall.out q hq)).1
          have g6 : sumI pureHi ps ≤ sumI (·.ah) ps := sumI_le ps fun q hq => (pure_le (hall.out q hq)).2
          have hbig' := hbig.out hall.out
          replace g1 := g1.1
          replace g3 := g3.1
          replace g4 := g4.1
          clear hbig hp hall
          generalize h1 : sumI (·.al) ps = a1 at *
          generalize h2 : sumI (·.ah) ps = a2 at *
          generalize h3 : sumI pureLo ps = a3 at *
          generalize h4 : sumI pureHi ps = a4 at *
          replace hfin := Lib.hid (hfin.out a1 a2 a3 a4 rfl rfl rfl rfl)
          clear h1 h2 h3 h4
          replace hbig' := Lib.hid hbig'
          obtain ⟨s1, s2⟩ := c1
          have n0 := b0.lt
          have n1 := hB0.size
          go_wp2_with fail
          refine (hsu.out _ (Below.refl _ _)).mono ?_
          rintro e W1 ⟨rfl, hb1⟩
          have hB1 := hB0.trans (hb1.mono hB0.size)
          replace b0 := b0.below hb1 b0.lt
          clear hb1 hB0 hsu x0 x1 x2 x3
          go_upto_region 12 with fail
          refine wp_world (fun W => Below w.heap.size w W ∧ Blk W w.heap.size 41 #[.int .i64 0, .int .i64 0, .int .i64 0, .int .i64 0] ∧ Blk W W1.heap.size 27 #[.int .i64 a1, .int .i64 a2] ∧ Blk W (W1.heap.size + 1) 27 #[.int .i64 a3, .int .i64 a4])
            ⟨(hB1.alloc hB1.size _).alloc (hB1.alloc hB1.size _).size _, (b0.alloc _).alloc _, (Blk.new _ _ _).alloc _, blk_at (by simp)⟩ ?_
          clear b0 hB1
          generalize W1.heap.size = g9
          rintro W2 ⟨hB2, b0, ba, bb⟩
          obtain ⟨x0, x1, x2, x3, _, _, _, _⟩ := b0.facts4
          obtain ⟨y0, y1, _, _⟩ := ba.facts2
          obtain ⟨z0, z1, _, _⟩ := bb.facts2
          by_cases d1 : 1099511627776 < a2
          · have hnf := Lib.hid (hfin.out.1 d1)
            clear hfin
            go_wp2_with fail
            refine bodyPost_ret (v := .tuple #[.agg #[.int .i64 0, .int .i64 0, .int .i64 0, .int .i64 0], .int .i64 11]) (by simp [results, Try.results28, go_sem, x0, x1, x2, x3]) rfl ?_
            exact hfail.out 11 hnf.out _ ((((hB2.setCell (by simp only; omega) _).setCell (by simp only; omega) _).setCell (by simp only; omega) _).setCell (by simp only; omega) _)
          · have d1' : a2 ≤ 1099511627776 := by omega
            by_cases d2 : a1 = 0
            · have hnf := Lib.hid (hfin.out.2.1 d1' d2)
              have d2' : (a1 == 0) = true := by simpa using d2
              clear hfin
              go_wp2_with fail
              refine bodyPost_ret (v := .tuple #[.agg #[.int .i64 0, .int .i64 0, .int .i64 0, .int .i64 0], .int .i64 4]) (by simp [results, Try.results28, go_sem, x0, x1, x2, x3]) rfl ?_
              exact hfail.out 4 hnf.out _ ((((hB2.setCell (by simp only; omega) _).setCell (by simp only; omega) _).setCell (by simp only; omega) _).setCell (by simp only; omega) _)
            · have hnf := Lib.hid (hfin.out.2.2 d1' d2)
              have d2' : (a1 == 0) = false := by simpa using d2
              have hmx := Lib.hid fun W => mixture_any hM a1 a2 a3 a4 s W (by omega) g2 d1' g3 (by omega) g4 (by omega) s1 s2 (Lib.hid (hbig'.out d1'))
              clear hfin hfail
              generalize mixAl a1 s = m1 at *
              generalize mixSl a2 a3 = m2 at *
              generalize mixSh a1 a4 s = m3 at *
              go_wp2_with fail
              refine (hmx.out _).mono ?_
              rintro e W3 ⟨rfl, hb3⟩
              have hB3 := hB2.trans (hb3.mono hB2.size)
              replace b0 := b0.below hb3 b0.lt
              clear hb3 hB2 hmx x0 x1 x2 x3 y0 y1 z0 z1 ba bb
              obtain ⟨x0, x1, x2, x3, _, _, _, _⟩ := b0.facts4
              have n3 := b0.lt
              go_wp2_with fail
              refine bodyPost_ret (v := .tuple #[.agg #[.int .i64 m1, .int .i64 a2, .int .i64 m2, .int .i64 m3], .int .i64 0]) (by simp [results, Try.results28, go_sem, x0, x1, x2, x3]) rfl ?_
              exact ⟨_, _, _, _, 0, rfl, hnf.out, (((hB3.setCell (by simp only; omega) _).setCell (by simp only; omega) _).setCell (by simp only; omega) _).setCell (by simp only; omega) _⟩
        · have hnf := Lib.hid (show MixIs ps s 0 0 0 0 2 from .inr ⟨by omega, .inr ⟨hall.out, .inl ⟨c1, rfl, rfl, rfl, rfl, rfl⟩⟩⟩)
          by_cases c2 : s < 0
          · go_wp2_with fail
            refine bodyPost_ret (v := .tuple #[.agg #[.int .i64 0, .int .i64 0, .int .i64 0, .int .i64 0], .int .i64 2]) (by simp [results, Try.results28, go_sem, x0, x1, x2, x3]) rfl ?_
            exact hfail.out 2 hnf.out _ ((((hB0.setCell (by simp only; omega) _).setCell (by simp only; omega) _).setCell (by simp only; omega) _).setCell (by simp only; omega) _)
          · have c3 : 1000 < s := by omega
            go_wp2_with fail
            refine bodyPost_ret (v := .tuple #[.agg #[.int .i64 0, .int .i64 0, .int .i64 0, .int .i64 0], .int .i64 2]) (by simp [results, Try.results28, go_sem, x0, x1, x2, x3]) rfl ?_
            exact hfail.out 2 hnf.out _ ((((hB0.setCell (by simp only; omega) _).setCell (by simp only; omega) _).setCell (by simp only; omega) _).setCell (by simp only; omega) _)
end Go.Proofs.Ytcghafdemklnnaa
