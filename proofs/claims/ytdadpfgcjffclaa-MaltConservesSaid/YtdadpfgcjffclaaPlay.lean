/- Play: what is known behind any steps, and what was lost, or the step and the error that end them. -/
import Derived.Test.YtdadpfgcjffclaaNext
import Derived.Test.YtdadpfgcjffclaaCells
import Derived.Test.YtdadpfgcjffclaaLoose
namespace Go.Proofs.Ytdadpfgcjffclaa
open Go.RowKit Go.Sort
attribute [local go_sem] Oper.calm Oper.calmAt Oper.calmUpon

def Gr.malt (g : Gr) : Array Value := #[.int .i64 g.d1, .int .i64 g.d2, .int .i64 g.w1, .int .i64 g.w2, .int .i64 g.p1, .int .i64 g.p2]
def Gr.loss (g : Gr) : Array Value := #[.int .i64 g.t1, .int .i64 g.t2, .int .i64 g.g1, .int .i64 g.g2, .int .i64 g.r1, .int .i64 g.r2, .int .i64 g.s1, .int .i64 g.s2]
/-- what Play returns -/
def playV (r : Gr × Nat × Int) : Value := .tuple #[.agg r.1.malt, .agg r.1.loss, .int .i64 r.2.1, .int .i64 r.2.2]
instance (d1 d2 w1 w2 p1 p2 : Int) : Decidable (MaltOk d1 d2 w1 w2 p1 p2) := by unfold MaltOk; infer_instance
def playR (d1 d2 w1 w2 p1 p2 : Int) (l : List StepV) : Gr × Nat × Int :=
  if MaltOk d1 d2 w1 w2 p1 p2 then (if 256 < l.length then (Gr.zero, 0, 3) else playG ⟨d1, d2, w1, w2, p1, p2, 0, 0, 0, 0, 0, 0, 0, 0⟩ l 0) else (Gr.zero, 0, 1)

theorem sp0 : SpOk 0 0 1099511627776 := by decide

/-- steps that lie one behind the other -/
def StepsAt (w : World) (A : Option Addr) (l : List StepV) : Prop :=
  0 < l.length → ∃ b off, A = some ⟨b, off, none⟩ ∧ b < w.heap.size ∧ ∀ (i : Nat) s, l[i]? = some s → w.cell? ⟨b, off + i * 3, none⟩ = some (.int .i64 s.k) ∧ w.cell? ⟨b, off + i * 3 + 1, none⟩ = some (.int .i64 s.a) ∧ w.cell? ⟨b, off + i * 3 + 2, none⟩ = some (.int .i64 s.b)
theorem StepsAt.below {w w' : World} {A : Option Addr} {l : List StepV} (h : StepsAt w A l) (hb : Below w.heap.size w w') : StepsAt w' A l := fun h0 => by
  obtain ⟨b, off, h1, h2, h3⟩ := h h0
  refine ⟨b, off, h1, Nat.lt_of_lt_of_le h2 hb.size, fun i p hp => ?_⟩
  obtain ⟨k1, k2, k3⟩ := h3 i p hp
  exact ⟨(hb.cell (p := ⟨b, _, none⟩) h2).trans k1, (hb.cell (p := ⟨b, _, none⟩) h2).trans k2, (hb.cell (p := ⟨b, _, none⟩) h2).trans k3⟩

set_option maxHeartbeats 1000000 in
theorem grain_malt (d1 d2 w1 w2 p1 p2 t1 t2 g1 g2 r1 r2 s1 s2 : Int) (w : World) :
    Calls Try.prog 36 #[.agg #[.int .i64 d1, .int .i64 d2, .int .i64 w1, .int .i64 w2, .int .i64 p1, .int .i64 p2, .int .i64 t1, .int .i64 t2, .int .i64 g1, .int .i64 g2, .int .i64 r1, .int .i64 r2, .int .i64 s1, .int .i64 s2]] w fun e w' => e = .returned (.agg #[.int .i64 d1, .int .i64 d2, .int .i64 w1, .int .i64 w2, .int .i64 p1, .int .i64 p2]) ∧ Below w.heap.size w w' := by
  go_enter Try.func36, Try.ntmps36
  go_upto_region 1 with fail
  refine wp_world (fun W => Below w.heap.size w W ∧ Blk W w.heap.size 75 #[.int .i64 d1, .int .i64 d2, .int .i64 w1, .int .i64 w2, .int .i64 p1, .int .i64 p2, .int .i64 t1, .int .i64 t2, .int .i64 g1, .int .i64 g2, .int .i64 r1, .int .i64 r2, .int .i64 s1, .int .i64 s2] ∧ Blk W (w.heap.size + 1) 25 #[.int .i64 0, .int .i64 0, .int .i64 0, .int .i64 0, .int .i64 0, .int .i64 0])
    ⟨((Below.refl _ _).alloc (Nat.le_refl _) _).alloc (by simp) _, (Blk.new _ _ _).alloc _, blk_at (by simp)⟩ ?_
  rintro W0 ⟨hB, b0, b1⟩
  obtain ⟨c0, c1, c2, c3, c4, c5, c6, c7, c8, c9, c10, c11, c12, c13⟩ := b0.facts14
  obtain ⟨z0, z1, z2, z3, z4, z5⟩ := b1.facts6
  obtain ⟨f0, f1, f2, f3, f4, f5⟩ := b1.frozen6
  go_wp2
  refine ret_world (fun W => Below w.heap.size w W ∧ Blk W (w.heap.size + 1) 25 #[.int .i64 d1, .int .i64 d2, .int .i64 w1, .int .i64 w2, .int .i64 p1, .int .i64 p2]) ⟨below6 hB (by omega), b1.sets6⟩ ?_
  clear hB b0 b1 c0 c1 c2 c3 c4 c5 c6 c7 c8 c9 c10 c11 c12 c13 z0  z1  z2  z3  z4  z5 f0  f1  f2  f3  f4  f5
  rintro W ⟨hB, b1⟩
  obtain ⟨z0, z1, z2, z3, z4, z5⟩ := b1.facts6
  exact bodyPost_ret (v := .agg #[.int .i64 d1, .int .i64 d2, .int .i64 w1, .int .i64 w2, .int .i64 p1, .int .i64 p2]) (by simp [results, Try.results36, go_sem, z0, z1, z2, z3, z4, z5]) rfl ⟨rfl, hB⟩

set_option maxHeartbeats 1000000 in
theorem grain_loss (d1 d2 w1 w2 p1 p2 t1 t2 g1 g2 r1 r2 s1 s2 : Int) (w : World) :
    Calls Try.prog 37 #[.agg #[.int .i64 d1, .int .i64 d2, .int .i64 w1, .int .i64 w2, .int .i64 p1, .int .i64 p2, .int .i64 t1, .int .i64 t2, .int .i64 g1, .int .i64 g2, .int .i64 r1, .int .i64 r2, .int .i64 s1, .int .i64 s2]] w fun e w' => e = .returned (.agg #[.int .i64 t1, .int .i64 t2, .int .i64 g1, .int .i64 g2, .int .i64 r1, .int .i64 r2, .int .i64 s1, .int .i64 s2]) ∧ Below w.heap.size w w' := by
  go_enter Try.func37, Try.ntmps37
  go_upto_region 1 with fail
  refine wp_world (fun W => Below w.heap.size w W ∧ Blk W w.heap.size 75 #[.int .i64 d1, .int .i64 d2, .int .i64 w1, .int .i64 w2, .int .i64 p1, .int .i64 p2, .int .i64 t1, .int .i64 t2, .int .i64 g1, .int .i64 g2, .int .i64 r1, .int .i64 r2, .int .i64 s1, .int .i64 s2] ∧ Blk W (w.heap.size + 1) 29 #[.int .i64 0, .int .i64 0, .int .i64 0, .int .i64 0, .int .i64 0, .int .i64 0, .int .i64 0, .int .i64 0])
    ⟨((Below.refl _ _).alloc (Nat.le_refl _) _).alloc (by simp) _, (Blk.new _ _ _).alloc _, blk_at (by simp)⟩ ?_
  rintro W0 ⟨hB, b0, b1⟩
  obtain ⟨c0, c1, c2, c3, c4, c5, c6, c7, c8, c9, c10, c11, c12, c13⟩ := b0.facts14
  obtain ⟨z0, z1, z2, z3, z4, z5, z6, z7⟩ := b1.facts8
  obtain ⟨f0, f1, f2, f3, f4, f5, f6, f7⟩ := b1.frozen8
  go_wp2
  refine ret_world (fun W => Below w.heap.size w W ∧ Blk W (w.heap.size + 1) 29 #[.int .i64 t1, .int .i64 t2, .int .i64 g1, .int .i64 g2, .int .i64 r1, .int .i64 r2, .int .i64 s1, .int .i64 s2]) ⟨below8 hB (by omega), b1.sets8⟩ ?_
  clear hB b0 b1 c0 c1 c2 c3 c4 c5 c6 c7 c8 c9 c10 c11 c12 c13 z0  z1  z2  z3  z4  z5  z6  z7 f0  f1  f2  f3  f4  f5  f6  f7
  rintro W ⟨hB, b1⟩
  obtain ⟨z0, z1, z2, z3, z4, z5, z6, z7⟩ := b1.facts8
  exact bodyPost_ret (v := .agg #[.int .i64 t1, .int .i64 t2, .int .i64 g1, .int .i64 g2, .int .i64 r1, .int .i64 r2, .int .i64 s1, .int .i64 s2]) (by simp [results, Try.results37, go_sem, z0, z1, z2, z3, z4, z5, z6, z7]) rfl ⟨rfl, hB⟩

set_option maxHeartbeats 8000000 in
set_option maxRecDepth 100000 in
theorem Play_any (d1 d2 w1 w2 p1 p2 : Int) (A : Option Addr) (c : Nat) (l : List StepV) (w : World) (hp : Hid (StepsAt w A l)) (hlen : l.length ≤ 140737488355328) :
    Calls Try.prog 12 #[.agg #[.int .i64 d1, .int .i64 d2, .int .i64 w1, .int .i64 w2, .int .i64 p1, .int .i64 p2], .slice A l.length c] w fun e w' => e = .returned (playV (playR d1 d2 w1 w2 p1 p2 l)) ∧ Below w.heap.size w w' := by
  have hv := Lib.hid fun W => validMalt_any d1 d2 w1 w2 p1 p2 W
  have hfin := Lib.hid (show ∀ r : Gr × Nat × Int, playR d1 d2 w1 w2 p1 p2 l = r → ∀ W, Below w.heap.size w W → (Ending.returned (playV r) = .returned (playV (playR d1 d2 w1 w2 p1 p2 l)) ∧ Below w.heap.size w W) from fun r h W hB => ⟨by rw [h], hB⟩)
  have hdef := Lib.hid (show playR d1 d2 w1 w2 p1 p2 l = if MaltOk d1 d2 w1 w2 p1 p2 then (if 256 < l.length then (Gr.zero, 0, 3) else playG ⟨d1, d2, w1, w2, p1, p2, 0, 0, 0, 0, 0, 0, 0, 0⟩ l 0) else (Gr.zero, 0, 1) from rfl)
  generalize playR d1 d2 w1 w2 p1 p2 l = rr at *
  go_enter Try.func12, Try.ntmps12
  go_wp2_with fail
  refine calls_world (fun W => Below w.heap.size w W ∧ Blk W w.heap.size 25 #[.int .i64 d1, .int .i64 d2, .int .i64 w1, .int .i64 w2, .int .i64 p1, .int .i64 p2] ∧ Blk W (w.heap.size + 1) 25 #[.int .i64 0, .int .i64 0, .int .i64 0, .int .i64 0, .int .i64 0, .int .i64 0] ∧ Blk W (w.heap.size + 1 + 1) 29 #[.int .i64 0, .int .i64 0, .int .i64 0, .int .i64 0, .int .i64 0, .int .i64 0, .int .i64 0, .int .i64 0])
    ⟨(((Below.refl _ _).alloc (Nat.le_refl _) _).alloc (by simp) _).alloc (by simp; omega) _, ((Blk.new _ _ _).alloc _).alloc _, (blk_at (by simp)).alloc _, blk_at (by simp)⟩ ?_
  rintro W0 ⟨hB0, b0, b1, b2⟩
  refine (hv.out _).mono ?_
  rintro e W1 ⟨r, rfl, hr, hb⟩
  replace b0 := b0.below hb b0.lt
  replace b1 := b1.below hb b1.lt
  replace b2 := b2.below hb b2.lt
  have hB := hB0.trans (hb.mono hB0.size)
  clear hb hB0 hv
  obtain ⟨z0, z1, z2, z3, z4, z5⟩ := b1.facts6
  obtain ⟨y0, y1, y2, y3, y4, y5, y6, y7⟩ := b2.facts8
  obtain ⟨u0, u1, u2, u3, u4, u5⟩ := b1.frozen6
  obtain ⟨v0, v1, v2, v3, v4, v5, v6, v7⟩ := b2.frozen8
  obtain ⟨x0, x1, x2, x3, x4, x5⟩ := b0.facts6
  have n2 := b2.lt
  cases r with
  | false =>
    replace hfin := Lib.hid (hfin.out (Gr.zero, 0, 1) (by rw [hdef.out, if_neg (fun h => Bool.noConfusion (hr.2 h))]))
    clear hr hdef hp
    go_wp2_with fail
    refine ret_world (fun W => Below w.heap.size w W ∧ Blk W (w.heap.size + 1) 25 #[.int .i64 0, .int .i64 0, .int .i64 0, .int .i64 0, .int .i64 0, .int .i64 0] ∧ Blk W (w.heap.size + 1 + 1) 29 #[.int .i64 0, .int .i64 0, .int .i64 0, .int .i64 0, .int .i64 0, .int .i64 0, .int .i64 0, .int .i64 0])
      ⟨below8 (below6 hB (by omega)) (by omega), Blk.farsets8 (Blk.sets6 b1) (by omega), Blk.sets8 (Blk.farsets6 b2 (by omega))⟩ ?_
    clear hB b1 b2 z0  z1  z2  z3  z4  z5 y0  y1  y2  y3  y4  y5  y6  y7 u0  u1  u2  u3  u4  u5 v0  v1  v2  v3  v4  v5  v6  v7 b0 x0 x1 x2 x3 x4 x5
    rintro W ⟨hB, b1, b2⟩
    obtain ⟨z0, z1, z2, z3, z4, z5⟩ := b1.facts6
    obtain ⟨y0, y1, y2, y3, y4, y5, y6, y7⟩ := b2.facts8
    exact bodyPost_ret (v := .tuple #[.agg #[.int .i64 0, .int .i64 0, .int .i64 0, .int .i64 0, .int .i64 0, .int .i64 0], .agg #[.int .i64 0, .int .i64 0, .int .i64 0, .int .i64 0, .int .i64 0, .int .i64 0, .int .i64 0, .int .i64 0], .int .i64 0, .int .i64 1]) (by simp [results, Try.results12, go_sem, z0, z1, z2, z3, z4, z5, y0, y1, y2, y3, y4, y5, y6, y7]) rfl (hfin.out _ hB)
  | true =>
    have hok := hr.1 rfl
    replace hdef := Lib.hid (hdef.out.trans (if_pos hok))
    clear hr
    by_cases hl : 256 < l.length
    · have hl' : (256 : Int) < l.length := by omega
      replace hfin := Lib.hid (hfin.out (Gr.zero, 0, 3) (by rw [hdef.out, if_pos hl]))
      clear hdef hp hok
      go_wp2_with fail
      refine ret_world (fun W => Below w.heap.size w W ∧ Blk W (w.heap.size + 1) 25 #[.int .i64 0, .int .i64 0, .int .i64 0, .int .i64 0, .int .i64 0, .int .i64 0] ∧ Blk W (w.heap.size + 1 + 1) 29 #[.int .i64 0, .int .i64 0, .int .i64 0, .int .i64 0, .int .i64 0, .int .i64 0, .int .i64 0, .int .i64 0])
        ⟨below8 (below6 hB (by omega)) (by omega), Blk.farsets8 (Blk.sets6 b1) (by omega), Blk.sets8 (Blk.farsets6 b2 (by omega))⟩ ?_
      clear hB b1 b2 z0  z1  z2  z3  z4  z5 y0  y1  y2  y3  y4  y5  y6  y7 u0  u1  u2  u3  u4  u5 v0  v1  v2  v3  v4  v5  v6  v7 b0 x0 x1 x2 x3 x4 x5
      rintro W ⟨hB, b1, b2⟩
      obtain ⟨z0, z1, z2, z3, z4, z5⟩ := b1.facts6
      obtain ⟨y0, y1, y2, y3, y4, y5, y6, y7⟩ := b2.facts8
      exact bodyPost_ret (v := .tuple #[.agg #[.int .i64 0, .int .i64 0, .int .i64 0, .int .i64 0, .int .i64 0, .int .i64 0], .agg #[.int .i64 0, .int .i64 0, .int .i64 0, .int .i64 0, .int .i64 0, .int .i64 0, .int .i64 0, .int .i64 0], .int .i64 0, .int .i64 3]) (by simp [results, Try.results12, go_sem, z0, z1, z2, z3, z4, z5, y0, y1, y2, y3, y4, y5, y6, y7]) rfl (hfin.out _ hB)
    · have hl' : ¬ (256 : Int) < l.length := by omega
      replace hdef := Lib.hid (hdef.out.trans (if_neg hl))
      have hg0 : Gr.Ok ⟨d1, d2, w1, w2, p1, p2, 0, 0, 0, 0, 0, 0, 0, 0⟩ := ⟨hok.1, hok.2.1, hok.2.2, sp0, sp0, sp0, sp0⟩
      replace hg0 := Lib.hid hg0
      clear hok
      go_upto_region 6 with fail
      refine wp_world (fun W => Below w.heap.size w W ∧ Blk W (w.heap.size + 1) 25 #[.int .i64 0, .int .i64 0, .int .i64 0, .int .i64 0, .int .i64 0, .int .i64 0] ∧ Blk W (w.heap.size + 1 + 1) 29 #[.int .i64 0, .int .i64 0, .int .i64 0, .int .i64 0, .int .i64 0, .int .i64 0, .int .i64 0, .int .i64 0] ∧ Blk W W1.heap.size 75 #[.int .i64 d1, .int .i64 d2, .int .i64 w1, .int .i64 w2, .int .i64 p1, .int .i64 p2, .int .i64 0, .int .i64 0, .int .i64 0, .int .i64 0, .int .i64 0, .int .i64 0, .int .i64 0, .int .i64 0]) ⟨hB.alloc hB.size _, b1.alloc _, b2.alloc _, Blk.new _ _ _⟩ ?_
      clear hB b0 b1 b2 z0  z1  z2  z3  z4  z5 y0  y1  y2  y3  y4  y5  y6  y7 u0  u1  u2  u3  u4  u5 v0  v1  v2  v3  v4  v5  v6  v7 x0 x1 x2 x3 x4 x5
      generalize W1.heap.size = g8 at *
      rintro W2 ⟨hB, b1, b2, b8⟩
      go_wp2_with fail
      go_loopw [33] (fun i wr => ∃ (k : Nat) (g : Gr), k ≤ l.length ∧ i = .int .i64 k ∧ Below w.heap.size w wr ∧ Blk wr (w.heap.size + 1) 25 #[.int .i64 0, .int .i64 0, .int .i64 0, .int .i64 0, .int .i64 0, .int .i64 0] ∧ Blk wr (w.heap.size + 1 + 1) 29 #[.int .i64 0, .int .i64 0, .int .i64 0, .int .i64 0, .int .i64 0, .int .i64 0, .int .i64 0, .int .i64 0] ∧ Blk wr g8 75 g.cells ∧ Hid g.Ok ∧ Hid (rr = playG g (l.drop k) k)) (fun i _ => l.length - (intOf i).toNat)
      case atStart => exact ⟨0, ⟨d1, d2, w1, w2, p1, p2, 0, 0, 0, 0, 0, 0, 0, 0⟩, Nat.zero_le _, rfl, hB, b1, b2, b8, hg0, hdef⟩
      case round =>
        clear hB b1 b2 b8 hg0 hdef
        obtain ⟨k, g, hk, rfl, hB, b1, b2, b8, hg, hdef⟩ := hrel
        by_cases hlt : k < l.length
        · obtain ⟨b, off, hA, hbl, hcells⟩ := hp.out (by omega)
          obtain ⟨s, hs⟩ : ∃ s, l[k]? = some s := ⟨_, List.getElem?_eq_getElem hlt⟩
          obtain ⟨k1, k2, k3⟩ := hcells k s hs
          have k1' := cell_later hB k1
          have k2' := cell_later hB k2
          have k3' := cell_later hB k3
          have hdr : l.drop k = s :: l.drop (k + 1) := by
            rw [List.drop_eq_getElem_cons hlt]
            congr 1
            exact Option.some.inj ((List.getElem?_eq_getElem hlt).symm.trans hs)
          have hnx := Lib.hid fun W => next_any g s.k s.a s.b W hg.out
          have hd2 := hdef.out
          rw [hdr, playG] at hd2
          have hok2 := fun h0 => (nextG_ok (k := s.k) (x := s.a) (y := s.b) hg.out h0).1
          replace hd2 := Lib.hid hd2
          replace hok2 := Lib.hid hok2
          obtain ⟨kk, xx, yy⟩ := s
          dsimp only at k1' k2' k3' hnx hd2 hok2
          clear k1 k2 k3 hcells hdef hdr hp hg hs
          generalize nextG g kk xx yy = nr at *
          obtain ⟨h, code⟩ := nr
          obtain ⟨d1, d2, w1, w2, p1, p2, t1, t2, g1, g2, r1, r2, s1, s2⟩ := g
          subst hA
          have n8 := b8.lt
          go_upto_region 9 with fail
          refine wp_world (fun W => Below w.heap.size w W ∧ Blk W (w.heap.size + 1) 25 #[.int .i64 0, .int .i64 0, .int .i64 0, .int .i64 0, .int .i64 0, .int .i64 0] ∧ Blk W (w.heap.size + 1 + 1) 29 #[.int .i64 0, .int .i64 0, .int .i64 0, .int .i64 0, .int .i64 0, .int .i64 0, .int .i64 0, .int .i64 0] ∧ Blk W g8 75 #[.int .i64 d1, .int .i64 d2, .int .i64 w1, .int .i64 w2, .int .i64 p1, .int .i64 p2, .int .i64 t1, .int .i64 t2, .int .i64 g1, .int .i64 g2, .int .i64 r1, .int .i64 r2, .int .i64 s1, .int .i64 s2] ∧ Blk W wr.heap.size 54 #[.int .i64 kk, .int .i64 xx, .int .i64 yy])
            ⟨hB.alloc hB.size _, b1.alloc _, b2.alloc _, b8.alloc _, Blk.new _ _ _⟩ ?_
          clear hB b1 b2 b8 k1' k2' k3'
          generalize wr.heap.size = g10 at *
          rintro W3 ⟨hB, b1, b2, b8, b10⟩
          obtain ⟨c0, c1, c2, c3, c4, c5, c6, c7, c8, c9, c10, c11, c12, c13⟩ := b8.facts14
          obtain ⟨e0, e1, e2, _, _, _⟩ := b10.facts3
          simp only [Gr.cells] at hnx
          go_wp2_with fail
          refine (hnx.out _).mono ?_
          rintro e W4 ⟨rfl, hb⟩
          replace b1 := b1.below hb b1.lt
          replace b2 := b2.below hb b2.lt
          replace b8 := b8.below hb b8.lt
          replace hB := hB.trans (hb.mono hB.size)
          clear hb hnx c0 c1 c2 c3 c4 c5 c6 c7 c8 c9 c10 c11 c12 c13 e0 e1 e2 b10
          obtain ⟨c0, c1, c2, c3, c4, c5, c6, c7, c8, c9, c10, c11, c12, c13⟩ := b8.facts14
          obtain ⟨f0, f1, f2, f3, f4, f5, f6, f7, f8, f9, f10, f11, f12, f13⟩ := b8.frozen14
          obtain ⟨qd1, qd2, qw1, qw2, qp1, qp2, qt1, qt2, qg1, qg2, qr1, qr2, qs1, qs2⟩ := h
          dsimp only at hok2 ⊢
          go_upto_region 10 with fail
          refine wp_world (fun W => Below w.heap.size w W ∧ Blk W (w.heap.size + 1) 25 #[.int .i64 0, .int .i64 0, .int .i64 0, .int .i64 0, .int .i64 0, .int .i64 0] ∧ Blk W (w.heap.size + 1 + 1) 29 #[.int .i64 0, .int .i64 0, .int .i64 0, .int .i64 0, .int .i64 0, .int .i64 0, .int .i64 0, .int .i64 0] ∧ Blk W g8 75 #[.int .i64 qd1, .int .i64 qd2, .int .i64 qw1, .int .i64 qw2, .int .i64 qp1, .int .i64 qp2, .int .i64 qt1, .int .i64 qt2, .int .i64 qg1, .int .i64 qg2, .int .i64 qr1, .int .i64 qr2, .int .i64 qs1, .int .i64 qs2])
            ⟨below14 hB (by omega), Blk.far14 b1 (by omega), Blk.far14 b2 (by omega), Blk.sets14 b8⟩ ?_
          clear hB b1 b2 b8 c0 c1 c2 c3 c4 c5 c6 c7 c8 c9 c10 c11 c12 c13 f0 f1 f2 f3 f4 f5 f6 f7 f8 f9 f10 f11 f12 f13
          rintro W5 ⟨hB, b1, b2, b8⟩
          by_cases hc : code = 0
          · subst hc
            go_wp2_with fail
            go_roundw
            case rel => exact ⟨k + 1, ⟨qd1, qd2, qw1, qw2, qp1, qp2, qt1, qt2, qg1, qg2, qr1, qr2, qs1, qs2⟩, by omega, by go_num, hB, b1, b2, b8, Lib.hid (hok2.out rfl), Lib.hid (hd2.out.trans (if_pos rfl))⟩
            case measure => simp [intOf]; omega
          · have hc' : (code == 0) = false := by simpa using hc
            replace hfin := Lib.hid (hfin.out (Gr.zero, k, code) (hd2.out.trans (if_neg hc)))
            clear hd2 hok2 hc
            obtain ⟨z0, z1, z2, z3, z4, z5⟩ := b1.facts6
            obtain ⟨y0, y1, y2, y3, y4, y5, y6, y7⟩ := b2.facts8
            obtain ⟨u0, u1, u2, u3, u4, u5⟩ := b1.frozen6
            obtain ⟨v0, v1, v2, v3, v4, v5, v6, v7⟩ := b2.frozen8
            go_wp2_with fail
            refine ret_world (fun W => Below w.heap.size w W ∧ Blk W (w.heap.size + 1) 25 #[.int .i64 0, .int .i64 0, .int .i64 0, .int .i64 0, .int .i64 0, .int .i64 0] ∧ Blk W (w.heap.size + 1 + 1) 29 #[.int .i64 0, .int .i64 0, .int .i64 0, .int .i64 0, .int .i64 0, .int .i64 0, .int .i64 0, .int .i64 0])
              ⟨below8 (below6 hB (by omega)) (by omega), Blk.farsets8 (Blk.sets6 b1) (by omega), Blk.sets8 (Blk.farsets6 b2 (by omega))⟩ ?_
            clear hB b1 b2 z0  z1  z2  z3  z4  z5 y0  y1  y2  y3  y4  y5  y6  y7 u0  u1  u2  u3  u4  u5 v0  v1  v2  v3  v4  v5  v6  v7 b8
            rintro W ⟨hB, b1, b2⟩
            obtain ⟨z0, z1, z2, z3, z4, z5⟩ := b1.facts6
            obtain ⟨y0, y1, y2, y3, y4, y5, y6, y7⟩ := b2.facts8
            exact bodyPost_ret (v := .tuple #[.agg #[.int .i64 0, .int .i64 0, .int .i64 0, .int .i64 0, .int .i64 0, .int .i64 0], .agg #[.int .i64 0, .int .i64 0, .int .i64 0, .int .i64 0, .int .i64 0, .int .i64 0, .int .i64 0, .int .i64 0], .int .i64 k, .int .i64 code]) (by simp [results, Try.results12, go_sem, z0, z1, z2, z3, z4, z5, y0, y1, y2, y3, y4, y5, y6, y7]) rfl (hfin.out _ hB)
        · have hk' : k = l.length := by omega
          subst hk'
          have hd2 := hdef.out
          rw [List.drop_length, playG] at hd2
          replace hfin := Lib.hid (hfin.out _ hd2)
          clear hdef hd2 hp hg
          obtain ⟨d1, d2, w1, w2, p1, p2, t1, t2, g1, g2, r1, r2, s1, s2⟩ := g
          have n8 := b8.lt
          have hmal := Lib.hid fun W => grain_malt d1 d2 w1 w2 p1 p2 t1 t2 g1 g2 r1 r2 s1 s2 W
          have hlos := Lib.hid fun W => grain_loss d1 d2 w1 w2 p1 p2 t1 t2 g1 g2 r1 r2 s1 s2 W
          simp only [Gr.cells] at b8
          obtain ⟨c0, c1, c2, c3, c4, c5, c6, c7, c8, c9, c10, c11, c12, c13⟩ := b8.facts14
          have c0' := fun d os => cell_regrown c0 d os
          have c1' := fun d os => cell_regrown c1 d os
          have c2' := fun d os => cell_regrown c2 d os
          have c3' := fun d os => cell_regrown c3 d os
          have c4' := fun d os => cell_regrown c4 d os
          have c5' := fun d os => cell_regrown c5 d os
          have c6' := fun d os => cell_regrown c6 d os
          have c7' := fun d os => cell_regrown c7 d os
          have c8' := fun d os => cell_regrown c8 d os
          have c9' := fun d os => cell_regrown c9 d os
          have c10' := fun d os => cell_regrown c10 d os
          have c11' := fun d os => cell_regrown c11 d os
          have c12' := fun d os => cell_regrown c12 d os
          have c13' := fun d os => cell_regrown c13 d os
          go_upto_region 13 with fail
          refine wp_region_loose 4 (v1 := .slice A l.length c) (v2 := .int .i64 l.length) (by kernel_rfl) (by kernel_rfl) rfl rfl (.inl ⟨by rfl, fun w => by rfl⟩) (.inl ⟨by rfl, fun w => by simp [go_sem, Act.put]⟩) (fun _ _ _ h => h) (fun _ _ _ h => h) ?_
          simp only [List.take_succ_cons, List.take_zero, List.drop_succ_cons, List.drop_zero, Act.put, List.setIfInBounds_toArray]
          repeat (quiet_step (fail))
          quiet_step (first | (go_at_call 36; exact quiet_call (fun W1 _ => hmal.out W1)))
          repeat (quiet_step (fail))
          quiet_step (first | (go_at_call 37; exact quiet_call (fun W1 _ => hlos.out W1)))
          repeat (quiet_step (fail))
          refine wpQuiet_nil ?_
          intro _ hw'
          obtain ⟨⟨dq, osq⟩, hw''⟩ := hw'
          subst hw''
          have hb := below_regrown wr dq osq
          replace b1 := b1.below hb b1.lt
          replace b2 := b2.below hb b2.lt
          replace hB := hB.trans (hb.mono hB.size)
          clear hb b8 c0 c1 c2 c3 c4 c5 c6 c7 c8 c9 c10 c11 c12 c13 c0' c1' c2' c3' c4' c5' c6' c7' c8' c9' c10' c11' c12' c13' hmal hlos
          generalize grow (redrawn wr dq) osq = W3 at *
          obtain ⟨z0, z1, z2, z3, z4, z5⟩ := b1.facts6
          obtain ⟨y0, y1, y2, y3, y4, y5, y6, y7⟩ := b2.facts8
          obtain ⟨u0, u1, u2, u3, u4, u5⟩ := b1.frozen6
          obtain ⟨v0, v1, v2, v3, v4, v5, v6, v7⟩ := b2.frozen8
          go_wp2
          refine ret_world (fun W => Below w.heap.size w W ∧ Blk W (w.heap.size + 1) 25 #[.int .i64 d1, .int .i64 d2, .int .i64 w1, .int .i64 w2, .int .i64 p1, .int .i64 p2] ∧ Blk W (w.heap.size + 1 + 1) 29 #[.int .i64 t1, .int .i64 t2, .int .i64 g1, .int .i64 g2, .int .i64 r1, .int .i64 r2, .int .i64 s1, .int .i64 s2])
            ⟨below8 (below6 hB (by omega)) (by omega), Blk.farsets8 (Blk.sets6 b1) (by omega), Blk.sets8 (Blk.farsets6 b2 (by omega))⟩ ?_
          clear hB b1 b2 z0  z1  z2  z3  z4  z5 y0  y1  y2  y3  y4  y5  y6  y7 u0  u1  u2  u3  u4  u5 v0  v1  v2  v3  v4  v5  v6  v7
          rintro W ⟨hB, b1, b2⟩
          obtain ⟨z0, z1, z2, z3, z4, z5⟩ := b1.facts6
          obtain ⟨y0, y1, y2, y3, y4, y5, y6, y7⟩ := b2.facts8
          exact bodyPost_ret (v := .tuple #[.agg #[.int .i64 d1, .int .i64 d2, .int .i64 w1, .int .i64 w2, .int .i64 p1, .int .i64 p2], .agg #[.int .i64 t1, .int .i64 t2, .int .i64 g1, .int .i64 g2, .int .i64 r1, .int .i64 r2, .int .i64 s1, .int .i64 s2], .int .i64 l.length, .int .i64 0]) (by simp [results, Try.results12, go_sem, z0, z1, z2, z3, z4, z5, y0, y1, y2, y3, y4, y5, y6, y7]) rfl (hfin.out _ hB)
end Go.Proofs.Ytdadpfgcjffclaa
