/- MaltConserves returns true, whatever the malt, the steps and the remainders are. -/
import Derived.Test.YtdadpfgcjffclaaAwake
import Derived.Test.YtdadpfgcjffclaaTrue
import Derived.Test.YtdadpfgcjffclaaPick
import Derived.Test.YtdadpfgcjffclaaConsTail
namespace Go.Proofs.Ytdadpfgcjffclaa
open Go.RowKit Go.Sort
attribute [local go_sem] Oper.calm Oper.calmAt Oper.calmUpon

theorem mod_nat (a n : Nat) (h : 0 < n) : ((a : Int).tmod (n : Int)) = ((a % n : Nat) : Int) ∧ a % n < n := by
  refine ⟨?_, Nat.mod_lt _ h⟩
  rw [Int.tmod_eq_emod_of_nonneg (by omega)]
  exact (Int.natCast_emod a n).symm

set_option maxHeartbeats 16000000 in
set_option maxRecDepth 100000 in
theorem law_cons (d1 d2 w1 w2 p1 p2 : Int) (A : Option Addr) (c : Nat) (l : List StepV) (B : Option Addr) (cb : Nat) (us : List Int) (w : World) (hp : StepsAt w A l) (hlen : l.length ≤ 140737488355328) (hu : WordsAt w B us) (hulen : us.length ≤ 140737488355328) (hub : ∀ u ∈ us, 0 ≤ u ∧ u ≤ 4294967295) :
    Calls Try.prog 6 #[.agg #[.int .i64 d1, .int .i64 d2, .int .i64 w1, .int .i64 w2, .int .i64 p1, .int .i64 p2], .slice A l.length c, .slice B us.length cb] w fun e w' => e = .returned (.bool true) ∧ Below w.heap.size w w' := by
  have h1 := Lib.hid fun W (hW : StepsAt W A l) => Play_any d1 d2 w1 w2 p1 p2 A c l W (Lib.hid hW) hlen
  have h2 := Lib.hid fun W => refMalt_any d1 d2 w1 w2 p1 p2 W
  have h7 := Lib.hid awake_any
  have hp' := Lib.hid hp
  have herr := Lib.hid (playR_err (d1 := d1) (d2 := d2) (w1 := w1) (w2 := w2) (p1 := p1) (p2 := p2) (l := l))
  have hokk := Lib.hid fun (G : Gr) (n : Nat) (h : playR d1 d2 w1 w2 p1 p2 l = (G, n, 0)) => playR_ok h
  replace hu := Lib.hid hu
  replace hub := Lib.hid hub
  clear hp
  generalize playR d1 d2 w1 w2 p1 p2 l = rr at *
  obtain ⟨⟨qd1, qd2, qw1, qw2, qp1, qp2, qt1, qt2, qg1, qg2, qr1, qr2, qs1, qs2⟩, idx, code⟩ := rr
  simp only [playV, Gr.malt, Gr.loss] at h1
  have hcond : (decide ((40 : Int) < l.length) = true) ∨ (decide ((40 : Int) < l.length) = false ∧ ((us.length : Int) == 0) = true) ∨ (decide ((40 : Int) < l.length) = false ∧ ((us.length : Int) == 0) = false) := by
    cases decide ((40 : Int) < l.length) <;> cases ((us.length : Int) == 0) <;> simp
  rcases hcond with v1 | ⟨v1, v2⟩ | ⟨v1, v2⟩
  · clear h1 h2 hp' herr hokk hub
    go_enter Try.func6, Try.ntmps6
    go_wp2_with fail
    refine calls_world (fun W => Below w.heap.size w W) ((Below.refl _ _).alloc (Nat.le_refl _) _) ?_
    rintro W0 hB
    refine (h7.out _).mono ?_
    rintro e W99 ⟨rfl, hb⟩
    go_wp2_with fail
    go_ret
    exact ⟨rfl, hB.trans (hb.mono hB.size)⟩
  · clear h1 h2 hp' herr hokk hub
    go_enter Try.func6, Try.ntmps6
    go_wp2_with fail
    refine calls_world (fun W => Below w.heap.size w W) ((Below.refl _ _).alloc (Nat.le_refl _) _) ?_
    rintro W0 hB
    refine (h7.out _).mono ?_
    rintro e W99 ⟨rfl, hb⟩
    go_wp2_with fail
    go_ret
    exact ⟨rfl, hB.trans (hb.mono hB.size)⟩
  · have hl40 : l.length ≤ 40 := by have := of_decide_eq_false v1; omega
    have hupos : 0 < us.length := by
      have : ¬ (us.length : Int) = 0 := by simpa using v2
      omega
    obtain ⟨bb, boff, hB', hbb, hbc⟩ := hu.out hupos
    subst hB'
    have hug : ∀ j, j < us.length → 0 ≤ us[j]?.getD 0 ∧ us[j]?.getD 0 ≤ 4294967295 := fun j hj => hub.out _ (by rw [List.getElem?_eq_getElem hj]; exact List.getElem_mem hj)
    replace hbc := Lib.hid hbc
    replace hug := Lib.hid hug
    clear hu hub
    go_enter Try.func6, Try.ntmps6
    go_wp2_with fail
    refine calls_world (fun W => Below w.heap.size w W ∧ Blk W w.heap.size 25 #[.int .i64 d1, .int .i64 d2, .int .i64 w1, .int .i64 w2, .int .i64 p1, .int .i64 p2]) ⟨(Below.refl _ _).alloc (Nat.le_refl _) _, Blk.new _ _ _⟩ ?_
    rintro W0 ⟨hB, b0⟩
    refine (h1.out _ (hp'.out.below hB)).mono ?_
    rintro e W1 ⟨rfl, hb⟩
    replace b0 := b0.below hb b0.lt
    replace hB := hB.trans (hb.mono hB.size)
    clear hb h1
    go_upto_region 4 with fail
    refine wp_world (fun W => Below w.heap.size w W ∧ Blk W w.heap.size 25 #[.int .i64 d1, .int .i64 d2, .int .i64 w1, .int .i64 w2, .int .i64 p1, .int .i64 p2] ∧ Blk W W1.heap.size 25 #[.int .i64 qd1, .int .i64 qd2, .int .i64 qw1, .int .i64 qw2, .int .i64 qp1, .int .i64 qp2] ∧ Blk W (W1.heap.size + 1) 29 #[.int .i64 qt1, .int .i64 qt2, .int .i64 qg1, .int .i64 qg2, .int .i64 qr1, .int .i64 qr2, .int .i64 qs1, .int .i64 qs2] ∧ w.heap.size < W1.heap.size) ⟨(hB.alloc hB.size _).alloc (by have := hB.size; simp; omega) _, (b0.alloc _).alloc _, (Blk.new _ _ _).alloc _, blk_at (by simp), b0.lt⟩ ?_
    clear hB b0
    generalize W1.heap.size = g7 at *
    rintro W2 ⟨hB, b0, b7, b8, ng7⟩
    by_cases hc : code = 0
    · subst hc
      obtain ⟨hmo, hpl, _⟩ := hokk.out _ _ rfl
      have hidx := playG_len _ _ _ _ _ hpl
      simp only [Nat.zero_add] at hidx
      subst hidx
      obtain ⟨⟨hd0, hd1, hd2⟩, ⟨hw0, hw1, hw2⟩, ⟨hp0, hp1, hp2⟩⟩ := id hmo
      have hg0 : Gr.Ok ⟨d1, d2, w1, w2, p1, p2, 0, 0, 0, 0, 0, 0, 0, 0⟩ := ⟨hmo.1, hmo.2.1, hmo.2.2, sp0, sp0, sp0, sp0⟩
      replace hg0 := Lib.hid hg0
      replace hpl := Lib.hid hpl
      obtain ⟨x0, x1, x2, x3, x4, x5⟩ := b0.facts6
      go_wp2_with fail
      refine (h2.out _).mono ?_
      rintro e W3 ⟨r, rfl, hr, hb⟩
      obtain rfl : r = true := hr.2 hmo
      replace b0 := b0.below hb b0.lt
      replace b7 := b7.below hb b7.lt
      replace b8 := b8.below hb b8.lt
      replace hB := hB.trans (hb.mono hB.size)
      clear hb h2 hr hmo herr hokk x0 x1 x2 x3 x4 x5
      have hn0 : ¬ us = [] := by intro h; rw [h] at hupos; exact absurd hupos (Nat.lt_irrefl 0)
      obtain ⟨e1, j1⟩ := mod_nat 1 us.length hupos
      obtain ⟨e2, j2⟩ := mod_nat 2 us.length hupos
      have e1' : (1 : Int).tmod (us.length : Int) = ((1 % us.length : Nat) : Int) := e1
      have e2' : (2 : Int).tmod (us.length : Int) = ((2 % us.length : Nat) : Int) := e2
      clear e1 e2
      obtain ⟨uu, huu⟩ : ∃ uu, us[0]?.getD 0 = uu := ⟨_, rfl⟩
      have hy := cell_later hB (hbc.out (0) (by omega))
      rw [huu] at hy
      have hub := hug.out (0) (by omega)
      rw [huu] at hub
      have hpk := Lib.hid fun W => pick_any d1 d2 uu W (by omega) (by omega) hub
      have hin := pick_in (u := uu) (show d1 ≤ d2 by omega)
      generalize pickN d1 d2 uu = dry at *
      generalize pickB d1 d2 = bo at *
      obtain ⟨x0, x1, x2, x3, x4, x5⟩ := b0.facts6
      have xa' := fun d os => cell_regrown x0 d os
      have xb' := fun d os => cell_regrown x1 d os
      have hy' := fun d os => cell_regrown hy d os
      simp only [Nat.add_zero] at hy hy'
      go_upto_region 8 with fail
      refine wp_region_quiet_below (by kernel_rfl) (by kernel_rfl) ?_
      repeat (quiet_step (fail))
      quiet_step (first | (go_at_call 26; exact quiet_call (fun W1 _ => hpk.out W1)))
      repeat (quiet_step (fail))
      refine wpQuiet_nil ?_
      intro _ hw'
      obtain ⟨⟨dq, osq⟩, hw''⟩ := hw'
      subst hw''
      have hb := below_regrown W3 dq osq
      replace b0 := b0.below hb b0.lt
      replace b7 := b7.below hb b7.lt
      replace b8 := b8.below hb b8.lt
      replace hB := hB.trans (hb.mono hB.size)
      clear hb x0 x1 x2 x3 x4 x5 xa' xb' hy hy' hpk huu hub
      generalize grow (redrawn W3 dq) osq = W3 at *
      obtain ⟨dry0, dry1⟩ := hin
      obtain ⟨uu, huu⟩ : ∃ uu, us[1 % us.length]?.getD 0 = uu := ⟨_, rfl⟩
      have hy := cell_later hB (hbc.out (1 % us.length) (by omega))
      rw [huu] at hy
      have hub := hug.out (1 % us.length) (by omega)
      rw [huu] at hub
      have hpk := Lib.hid fun W => pick_any w1 w2 uu W (by omega) (by omega) hub
      have hin := pick_in (u := uu) (show w1 ≤ w2 by omega)
      generalize pickN w1 w2 uu = wat at *
      generalize pickB w1 w2 = bo at *
      obtain ⟨x0, x1, x2, x3, x4, x5⟩ := b0.facts6
      have xa' := fun d os => cell_regrown x2 d os
      have xb' := fun d os => cell_regrown x3 d os
      have hy' := fun d os => cell_regrown hy d os
      generalize hj : 1 % us.length = jj at *
      go_upto_region 9 with fail
      refine wp_region_quiet_below (by kernel_rfl) (by kernel_rfl) ?_
      repeat (quiet_step (fail))
      quiet_step (first | (go_at_call 26; exact quiet_call (fun W1 _ => hpk.out W1)))
      repeat (quiet_step (fail))
      refine wpQuiet_nil ?_
      intro _ hw'
      obtain ⟨⟨dq, osq⟩, hw''⟩ := hw'
      subst hw''
      have hb := below_regrown W3 dq osq
      replace b0 := b0.below hb b0.lt
      replace b7 := b7.below hb b7.lt
      replace b8 := b8.below hb b8.lt
      replace hB := hB.trans (hb.mono hB.size)
      clear hb x0 x1 x2 x3 x4 x5 xa' xb' hy hy' hpk huu hub
      generalize grow (redrawn W3 dq) osq = W3 at *
      obtain ⟨wat0, wat1⟩ := hin
      clear j1 e1' hj
      obtain ⟨uu, huu⟩ : ∃ uu, us[2 % us.length]?.getD 0 = uu := ⟨_, rfl⟩
      have hy := cell_later hB (hbc.out (2 % us.length) (by omega))
      rw [huu] at hy
      have hub := hug.out (2 % us.length) (by omega)
      rw [huu] at hub
      have hpk := Lib.hid fun W => pick_any p1 p2 uu W (by omega) (by omega) hub
      have hin := pick_in (u := uu) (show p1 ≤ p2 by omega)
      generalize pickN p1 p2 uu = phe at *
      generalize pickB p1 p2 = bo at *
      obtain ⟨x0, x1, x2, x3, x4, x5⟩ := b0.facts6
      have xa' := fun d os => cell_regrown x4 d os
      have xb' := fun d os => cell_regrown x5 d os
      have hy' := fun d os => cell_regrown hy d os
      generalize hj : 2 % us.length = jj at *
      go_upto_region 10 with fail
      refine wp_region_quiet_below (by kernel_rfl) (by kernel_rfl) ?_
      repeat (quiet_step (fail))
      quiet_step (first | (go_at_call 26; exact quiet_call (fun W1 _ => hpk.out W1)))
      repeat (quiet_step (fail))
      refine wpQuiet_nil ?_
      intro _ hw'
      obtain ⟨⟨dq, osq⟩, hw''⟩ := hw'
      subst hw''
      have hb := below_regrown W3 dq osq
      replace b0 := b0.below hb b0.lt
      replace b7 := b7.below hb b7.lt
      replace b8 := b8.below hb b8.lt
      replace hB := hB.trans (hb.mono hB.size)
      clear hb x0 x1 x2 x3 x4 x5 xa' xb' hy hy' hpk huu hub
      generalize grow (redrawn W3 dq) osq = W3 at *
      obtain ⟨phe0, phe1⟩ := hin
      clear j2 e2' hj
      have hfirst : IntKind.i64.wrap (dry + wat) = dry + wat := IntWalk.i64_in _ (by omega)
      obtain ⟨first, hf⟩ : ∃ first, dry + wat = first := ⟨_, rfl⟩
      have hT0 : Tr.In ⟨dry, wat, phe, 0, 0, 0, 0⟩ ⟨d1, d2, w1, w2, p1, p2, 0, 0, 0, 0, 0, 0, 0, 0⟩ := ⟨⟨dry0, dry1⟩, ⟨wat0, wat1⟩, ⟨phe0, phe1⟩, ⟨by simp, by simp⟩, ⟨by simp, by simp⟩, ⟨by simp, by simp⟩, ⟨by simp, by simp⟩⟩
      have hS0 : Tr.Sum ⟨dry, wat, phe, 0, 0, 0, 0⟩ first := by unfold Tr.Sum; dsimp only; omega
      replace hT0 := Lib.hid hT0
      replace hS0 := Lib.hid hS0
      have hfb : 0 ≤ first ∧ first ≤ 2199023255552 := by omega
      replace hf := Lib.hid hf
      have hf' := hf.out
      clear b0
      go_upto_region 12 with fail
      go_wp2_with fail
      go_loopw [11, 13, 15, 18, 19, 20, 21, 22] (fun a1 a2 a3 a4 a5 a6 a7 i wr => ∃ (k : Nat) (g : Gr) (T : Tr), k ≤ l.length ∧ i = .int .i64 k ∧ a1 = .int .i64 T.dry ∧ a2 = .int .i64 T.water ∧ a3 = .int .i64 T.phen ∧ a4 = .int .i64 T.tak ∧ a5 = .int .i64 T.gas ∧ a6 = .int .i64 T.root ∧ a7 = .int .i64 T.steam ∧ Below w.heap.size w wr ∧ Blk wr g7 25 #[.int .i64 qd1, .int .i64 qd2, .int .i64 qw1, .int .i64 qw2, .int .i64 qp1, .int .i64 qp2] ∧ Blk wr (g7 + 1) 29 #[.int .i64 qt1, .int .i64 qt2, .int .i64 qg1, .int .i64 qg2, .int .i64 qr1, .int .i64 qr2, .int .i64 qs1, .int .i64 qs2] ∧ Hid g.Ok ∧ Hid (T.In g) ∧ Hid (T.Sum first) ∧ Hid (playG g (l.drop k) k = (⟨qd1, qd2, qw1, qw2, qp1, qp2, qt1, qt2, qg1, qg2, qr1, qr2, qs1, qs2⟩, l.length, 0))) (fun _ _ _ _ _ _ _ i _ => l.length - (intOf i).toNat)
      case atStart => exact ⟨0, ⟨d1, d2, w1, w2, p1, p2, 0, 0, 0, 0, 0, 0, 0, 0⟩, ⟨dry, wat, phe, 0, 0, 0, 0⟩, Nat.zero_le _, rfl, rfl, rfl, rfl, rfl, rfl, rfl, rfl, hB, b7, b8, hg0, hT0, hS0, hpl⟩
      case round =>
        clear hB b7 b8 hg0 hT0 hS0 hpl hf hf' hfirst dry0 dry1 wat0 wat1 phe0 phe1
        obtain ⟨k, g, T, hk, rfl, rfl, rfl, rfl, rfl, rfl, rfl, rfl, hB, b7, b8, hgo, hT, hS, hpl⟩ := hrel
        by_cases hlt : k < l.length
        · obtain ⟨b, off, hA, hbl, hcells⟩ := hp'.out (by omega)
          obtain ⟨s, hs⟩ : ∃ s, l[k]? = some s := ⟨_, List.getElem?_eq_getElem hlt⟩
          obtain ⟨k1, k2, k3⟩ := hcells k s hs
          have k1' := cell_later hB k1
          have k2' := cell_later hB k2
          have k3' := cell_later hB k3
          have hdr : l.drop k = s :: l.drop (k + 1) := by
            rw [List.drop_eq_getElem_cons hlt]
            congr 1
            exact Option.some.inj ((List.getElem?_eq_getElem hlt).symm.trans hs)
          have hpl2 := hpl.out
          rw [hdr] at hpl2
          obtain ⟨hstep, g', hdo, hgo', hpl3⟩ := playG_ok_cons hgo.out hpl2
          obtain ⟨kk, xx, yy⟩ := s
          dsimp only at k1' k2' k3' hstep hdo
          replace hgo' := Lib.hid hgo'
          replace hpl3 := Lib.hid hpl3
          obtain ⟨e3, j3⟩ := mod_nat (k + 3) us.length hupos
          have e3' : ((k : Int) + 3).tmod (us.length : Int) = (((k + 3) % us.length : Nat) : Int) := e3
          obtain ⟨uu, huu⟩ : ∃ uu, us[(k + 3) % us.length]?.getD 0 = uu := ⟨_, rfl⟩
          have hy := cell_later hB (hbc.out _ j3)
          rw [huu] at hy
          have hub := hug.out _ j3
          rw [huu] at hub
          generalize (k + 3) % us.length = jj at *
          have hst2 := Lib.hid fun W => refStep_any kk xx yy W
          clear k1 k2 k3 hcells hdr hpl hpl2 hs huu e3
          subst hA
          go_upto_region 17 with fail
          refine wp_world (fun W => Below w.heap.size w W ∧ Blk W g7 25 #[.int .i64 qd1, .int .i64 qd2, .int .i64 qw1, .int .i64 qw2, .int .i64 qp1, .int .i64 qp2] ∧ Blk W (g7 + 1) 29 #[.int .i64 qt1, .int .i64 qt2, .int .i64 qg1, .int .i64 qg2, .int .i64 qr1, .int .i64 qr2, .int .i64 qs1, .int .i64 qs2] ∧ Blk W wr.heap.size 54 #[.int .i64 kk, .int .i64 xx, .int .i64 yy] ∧ W.cell? ⟨bb, boff + jj, none⟩ = some (.int .u32 uu)) ⟨hB.alloc hB.size _, b7.alloc _, b8.alloc _, Blk.new _ _ _, cell_later ((Below.refl _ _).alloc (Nat.le_refl _) _) hy⟩ ?_
          clear hB b7 b8 k1' k2' k3' hy
          generalize wr.heap.size = g23 at *
          rintro W4 ⟨hB, b7, b8, b23, hy⟩
          obtain ⟨s0, s1, s2, _, _, _⟩ := b23.facts3
          go_wp2_with fail
          refine (hst2.out _).mono ?_
          rintro e W5 ⟨r, rfl, hr, hb⟩
          obtain rfl : r = true := hr.2 hstep
          replace b7 := b7.below hb b7.lt
          replace b8 := b8.below hb b8.lt
          replace b23 := b23.below hb b23.lt
          replace hy := cell_later hb hy
          replace hB := hB.trans (hb.mono hB.size)
          clear hb hst2 hr s0 s1 s2
          obtain ⟨s0, s1, s2, _, _, _⟩ := b23.facts3
          obtain ⟨dry, wat, phe, tak, gas, rt, stm⟩ := T
          dsimp only
          have hk3 : IntKind.i64.wrap ((k : Int) + 3) = (k : Int) + 3 := IntWalk.i64_in _ (by omega)
          obtain ⟨⟨hd0, hd1, hd2⟩, ⟨hw0, hw1, hw2⟩, ⟨hp0, hp1, hp2⟩, ⟨ht0, ht1, ht2⟩, ⟨hg0, hg1, hg2⟩, ⟨hr0, hr1, hr2⟩, ⟨hs0, hs1, hs2⟩⟩ := hgo.out
          obtain ⟨⟨id0, id1⟩, ⟨iw0, iw1⟩, ⟨ip0, ip1⟩, ⟨it0, it1⟩, ⟨ig0, ig1⟩, ⟨ir0, ir1⟩, ⟨is0, is1⟩⟩ := hT.out
          dsimp only at id0 id1 iw0 iw1 ip0 ip1 it0 it1 ig0 ig1 ir0 ir1 is0 is1
          obtain ⟨sk0, sk5, sx⟩ := hstep
          have hkk : kk = 0 ∨ kk = 1 ∨ kk = 2 ∨ kk = 3 ∨ kk = 4 ∨ kk = 5 := by omega
          rcases hkk with rfl | rfl | rfl | rfl | rfl | rfl
          · have hx : SpOk xx yy 1099511627776 := sx
            obtain ⟨hx0, hx1, hx2⟩ := id hx
            have lob : 0 ≤ xx ∧ xx ≤ 2305843009213693952 := by omega
            have hib : 0 ≤ yy ∧ yy ≤ 2305843009213693952 := by omega
            have hpk := Lib.hid fun W => pick_any (xx) (yy) uu W (by omega) (by omega) hub
            have hnew := Lib.hid fun v (h1 : xx ≤ v) (h2 : v ≤ yy) => tr_steep hdo hT.out h1 h2
            by_cases hle : xx ≤ yy
            · have hin := pick_in (u := uu) hle
              have hpb : pickB xx yy = true := by simpa [pickB] using hle
              generalize pickN xx yy uu = v at *
              rw [hpb] at hpk
              have hT' := hnew.out v hin.1 hin.2
              obtain ⟨⟨ld0, ld1⟩, ⟨lw0, lw1⟩, ⟨lp0, lp1⟩, ⟨lt0, lt1⟩, ⟨lg0, lg1⟩, ⟨lr0, lr1⟩, ⟨ls0, ls1⟩⟩ := id hT'
              dsimp only at ld0 ld1 lw0 lw1 lp0 lp1 lt0 lt1 lg0 lg1 lr0 lr1 ls0 ls1
              obtain ⟨⟨md0, md1, md2⟩, ⟨mw0, mw1, mw2⟩, ⟨mp0, mp1, mp2⟩, ⟨mt0, mt1, mt2⟩, ⟨mg0, mg1, mg2⟩, ⟨mr0, mr1, mr2⟩, ⟨ms0, ms1, ms2⟩⟩ := hgo'.out
              have hS' : Tr.Sum ⟨dry, wat + v, phe, tak + v, gas, rt, stm⟩ first := by
                have := hS.out
                unfold Tr.Sum at this ⊢
                dsimp only at this ⊢
                omega
              replace hT' := Lib.hid hT'
              replace hS' := Lib.hid hS'
              clear hnew hin hle hpb hT hS hdo hgo
              go_wp2_with fail
              refine (hpk.out _).mono ?_
              rintro e W6 ⟨rfl, hb⟩
              replace b7 := b7.below hb b7.lt
              replace b8 := b8.below hb b8.lt
              replace hB := hB.trans (hb.mono hB.size)
              clear hb hpk b23 s0 s1 s2 hy
              go_wp2_with fail
              go_roundw
              case rel => exact ⟨k + 1, g', ⟨dry, wat + v, phe, tak + v, gas, rt, stm⟩, by omega, by go_num, rfl, rfl, rfl, rfl, rfl, rfl, rfl, hB, b7, b8, hgo', hT', hS', hpl3⟩
              case measure => simp [intOf]; omega
            · have hpn : pickN xx yy uu = 0 := pick_none hle
              have hpb : pickB xx yy = false := by simpa [pickB] using hle
              rw [hpn, hpb] at hpk
              clear hnew hle hpn hpb hT hS hdo hgo hgo' hpl3
              go_wp2_with fail
              refine (hpk.out _).mono ?_
              rintro e W6 ⟨rfl, hb⟩
              replace hB := hB.trans (hb.mono hB.size)
              clear hb hpk b7 b8 b23 s0 s1 s2 hy
              go_wp2_with fail
              refine (h7.out _).mono ?_
              rintro e W99 ⟨rfl, hb⟩
              go_wp2_with fail
              go_ret
              exact ⟨rfl, hB.trans (hb.mono hB.size)⟩
          · have hx : SpOk xx yy 10000 := sx
            obtain ⟨hx0, hx1, hx2⟩ := id hx
            have q1 := prod_bd hx0 (show xx ≤ 10000 by omega) (show 0 ≤ dry by omega) (show dry ≤ 1099511627776 by omega)
            have q2 := prod_bd (show 0 ≤ yy by omega) hx2 (show 0 ≤ dry by omega) (show dry ≤ 1099511627776 by omega)
            have r1 : IntKind.i64.wrap (xx * dry) = xx * dry := IntWalk.i64_in _ (by omega)
            have r2 : IntKind.i64.wrap (yy * dry) = yy * dry := IntWalk.i64_in _ (by omega)
            have r3 : IntKind.i64.wrap (xx * dry + 9999) = xx * dry + 9999 := IntWalk.i64_in _ (by omega)
            have t1 : (xx * dry + 9999).tdiv 10000 = (xx * dry + 9999) / 10000 := Int.tdiv_eq_ediv_of_nonneg (by omega)
            have t2 : (yy * dry).tdiv 10000 = (yy * dry) / 10000 := Int.tdiv_eq_ediv_of_nonneg (by omega)
            have lob : 0 ≤ (xx * dry + 9999) / 10000 ∧ (xx * dry + 9999) / 10000 ≤ 2305843009213693952 := by omega
            have hib : 0 ≤ yy * dry / 10000 ∧ yy * dry / 10000 ≤ 2305843009213693952 := by omega
            have hpk := Lib.hid fun W => pick_any ((xx * dry + 9999) / 10000) (yy * dry / 10000) uu W (by omega) (by omega) hub
            have hnew := Lib.hid fun v (h1 : (xx * dry + 9999) / 10000 ≤ v) (h2 : v ≤ yy * dry / 10000) => tr_sprout hgo.out hx hdo hT.out h1 h2
            clear q1 q2
            generalize hlo : (xx * dry + 9999) / 10000 = lo at *
            generalize hhi : yy * dry / 10000 = hi at *
            have r4 : IntKind.i64.wrap lo = lo := IntWalk.i64_in _ (by omega)
            have r5 : IntKind.i64.wrap hi = hi := IntWalk.i64_in _ (by omega)
            clear hhi hlo
            by_cases hle : lo ≤ hi
            · have hin := pick_in (u := uu) hle
              have hpb : pickB lo hi = true := by simpa [pickB] using hle
              generalize pickN lo hi uu = v at *
              rw [hpb] at hpk
              have hT' := hnew.out v hin.1 hin.2
              obtain ⟨⟨ld0, ld1⟩, ⟨lw0, lw1⟩, ⟨lp0, lp1⟩, ⟨lt0, lt1⟩, ⟨lg0, lg1⟩, ⟨lr0, lr1⟩, ⟨ls0, ls1⟩⟩ := id hT'
              dsimp only at ld0 ld1 lw0 lw1 lp0 lp1 lt0 lt1 lg0 lg1 lr0 lr1 ls0 ls1
              obtain ⟨⟨md0, md1, md2⟩, ⟨mw0, mw1, mw2⟩, ⟨mp0, mp1, mp2⟩, ⟨mt0, mt1, mt2⟩, ⟨mg0, mg1, mg2⟩, ⟨mr0, mr1, mr2⟩, ⟨ms0, ms1, ms2⟩⟩ := hgo'.out
              have hS' : Tr.Sum ⟨dry - v, wat, phe, tak, gas + v, rt, stm⟩ first := by
                have := hS.out
                unfold Tr.Sum at this ⊢
                dsimp only at this ⊢
                omega
              replace hT' := Lib.hid hT'
              replace hS' := Lib.hid hS'
              clear hnew hin hle hpb hT hS hdo hgo
              go_wp2_with fail
              refine (hpk.out _).mono ?_
              rintro e W6 ⟨rfl, hb⟩
              replace b7 := b7.below hb b7.lt
              replace b8 := b8.below hb b8.lt
              replace hB := hB.trans (hb.mono hB.size)
              clear hb hpk b23 s0 s1 s2 hy
              go_wp2_with fail
              go_roundw
              case rel => exact ⟨k + 1, g', ⟨dry - v, wat, phe, tak, gas + v, rt, stm⟩, by omega, by go_num, rfl, rfl, rfl, rfl, rfl, rfl, rfl, hB, b7, b8, hgo', hT', hS', hpl3⟩
              case measure => simp [intOf]; omega
            · have hpn : pickN lo hi uu = 0 := pick_none hle
              have hpb : pickB lo hi = false := by simpa [pickB] using hle
              rw [hpn, hpb] at hpk
              clear hnew hle hpn hpb hT hS hdo hgo hgo' hpl3
              go_wp2_with fail
              refine (hpk.out _).mono ?_
              rintro e W6 ⟨rfl, hb⟩
              replace hB := hB.trans (hb.mono hB.size)
              clear hb hpk b7 b8 b23 s0 s1 s2 hy
              go_wp2_with fail
              refine (h7.out _).mono ?_
              rintro e W99 ⟨rfl, hb⟩
              go_wp2_with fail
              go_ret
              exact ⟨rfl, hB.trans (hb.mono hB.size)⟩
          · have hx : SpOk xx yy 10000 := sx
            obtain ⟨hx0, hx1, hx2⟩ := id hx
            have q1 := prod_bd hx0 (show xx ≤ 10000 by omega) (show 0 ≤ dry by omega) (show dry ≤ 1099511627776 by omega)
            have q2 := prod_bd (show 0 ≤ yy by omega) hx2 (show 0 ≤ dry by omega) (show dry ≤ 1099511627776 by omega)
            have r1 : IntKind.i64.wrap (xx * dry) = xx * dry := IntWalk.i64_in _ (by omega)
            have r2 : IntKind.i64.wrap (yy * dry) = yy * dry := IntWalk.i64_in _ (by omega)
            have r3 : IntKind.i64.wrap (xx * dry + 9999) = xx * dry + 9999 := IntWalk.i64_in _ (by omega)
            have t1 : (xx * dry + 9999).tdiv 10000 = (xx * dry + 9999) / 10000 := Int.tdiv_eq_ediv_of_nonneg (by omega)
            have t2 : (yy * dry).tdiv 10000 = (yy * dry) / 10000 := Int.tdiv_eq_ediv_of_nonneg (by omega)
            have lob : 0 ≤ (xx * dry + 9999) / 10000 ∧ (xx * dry + 9999) / 10000 ≤ 2305843009213693952 := by omega
            have hib : 0 ≤ min (yy * dry / 10000) wat ∧ min (yy * dry / 10000) wat ≤ 2305843009213693952 := by omega
            have hpk := Lib.hid fun W => pick_any ((xx * dry + 9999) / 10000) (min (yy * dry / 10000) wat) uu W (by omega) (by omega) hub
            have hnew := Lib.hid fun v (h1 : (xx * dry + 9999) / 10000 ≤ v) (h2 : v ≤ min (yy * dry / 10000) wat) => tr_kiln hx hdo hT.out h1 h2
            have hmin : (if wat < yy * dry / 10000 then wat else yy * dry / 10000) = min (yy * dry / 10000) wat := by split <;> omega
            have hi0b : 0 ≤ yy * dry / 10000 ∧ yy * dry / 10000 ≤ 2305843009213693952 := by omega
            clear q1 q2
            generalize hi2 : yy * dry / 10000 = hi0 at *
            generalize hlo : (xx * dry + 9999) / 10000 = lo at *
            generalize hhi : min hi0 wat = hi at *
            have r4 : IntKind.i64.wrap lo = lo := IntWalk.i64_in _ (by omega)
            have r5 : IntKind.i64.wrap hi = hi := IntWalk.i64_in _ (by omega)
            have r6 : IntKind.i64.wrap hi0 = hi0 := IntWalk.i64_in _ (by omega)
            clear hlo
            have hhv := Lib.hid hhi
            clear hhi hi2
            by_cases hle : lo ≤ hi
            · have hin := pick_in (u := uu) hle
              have hpb : pickB lo hi = true := by simpa [pickB] using hle
              generalize pickN lo hi uu = v at *
              rw [hpb] at hpk
              have hT' := hnew.out v hin.1 hin.2
              obtain ⟨⟨ld0, ld1⟩, ⟨lw0, lw1⟩, ⟨lp0, lp1⟩, ⟨lt0, lt1⟩, ⟨lg0, lg1⟩, ⟨lr0, lr1⟩, ⟨ls0, ls1⟩⟩ := id hT'
              dsimp only at ld0 ld1 lw0 lw1 lp0 lp1 lt0 lt1 lg0 lg1 lr0 lr1 ls0 ls1
              obtain ⟨⟨md0, md1, md2⟩, ⟨mw0, mw1, mw2⟩, ⟨mp0, mp1, mp2⟩, ⟨mt0, mt1, mt2⟩, ⟨mg0, mg1, mg2⟩, ⟨mr0, mr1, mr2⟩, ⟨ms0, ms1, ms2⟩⟩ := hgo'.out
              have hS' : Tr.Sum ⟨dry, v, phe, tak, gas, rt, stm + wat - v⟩ first := by
                have := hS.out
                unfold Tr.Sum at this ⊢
                dsimp only at this ⊢
                omega
              replace hT' := Lib.hid hT'
              replace hS' := Lib.hid hS'
              clear hnew hin hle hpb hT hS hdo hgo hhv
              go_wp2_with fail
              refine (hpk.out _).mono ?_
              rintro e W6 ⟨rfl, hb⟩
              replace b7 := b7.below hb b7.lt
              replace b8 := b8.below hb b8.lt
              replace hB := hB.trans (hb.mono hB.size)
              clear hb hpk b23 s0 s1 s2 hy
              go_wp2_with fail
              go_roundw
              case rel => exact ⟨k + 1, g', ⟨dry, v, phe, tak, gas, rt, stm + wat - v⟩, by omega, by go_num, rfl, rfl, rfl, rfl, rfl, rfl, rfl, hB, b7, b8, hgo', hT', hS', hpl3⟩
              case measure => simp [intOf]; omega
            · have hpn : pickN lo hi uu = 0 := pick_none hle
              have hpb : pickB lo hi = false := by simpa [pickB] using hle
              rw [hpn, hpb] at hpk
              clear hnew hle hpn hpb hT hS hdo hgo hgo' hpl3 hhv
              go_wp2_with fail
              refine (hpk.out _).mono ?_
              rintro e W6 ⟨rfl, hb⟩
              replace hB := hB.trans (hb.mono hB.size)
              clear hb hpk b7 b8 b23 s0 s1 s2 hy
              go_wp2_with fail
              refine (h7.out _).mono ?_
              rintro e W99 ⟨rfl, hb⟩
              go_wp2_with fail
              go_ret
              exact ⟨rfl, hB.trans (hb.mono hB.size)⟩
          · have hx : SpOk xx yy 1048576 := sx
            obtain ⟨hx0, hx1, hx2⟩ := id hx
            have q1 := prod_bd hx0 (show xx ≤ 1048576 by omega) (show 0 ≤ dry by omega) (show dry ≤ 1099511627776 by omega)
            have q2 := prod_bd (show 0 ≤ yy by omega) hx2 (show 0 ≤ dry by omega) (show dry ≤ 1099511627776 by omega)
            have r1 : IntKind.i64.wrap (xx * dry) = xx * dry := IntWalk.i64_in _ (by omega)
            have r2 : IntKind.i64.wrap (yy * dry) = yy * dry := IntWalk.i64_in _ (by omega)
            have r3 : IntKind.i64.wrap (xx * dry + 999) = xx * dry + 999 := IntWalk.i64_in _ (by omega)
            have t1 : (xx * dry + 999).tdiv 1000 = (xx * dry + 999) / 1000 := Int.tdiv_eq_ediv_of_nonneg (by omega)
            have t2 : (yy * dry).tdiv 1000 = (yy * dry) / 1000 := Int.tdiv_eq_ediv_of_nonneg (by omega)
            have lob : 0 ≤ (xx * dry + 999) / 1000 ∧ (xx * dry + 999) / 1000 ≤ 2305843009213693952 := by omega
            have hib : 0 ≤ yy * dry / 1000 ∧ yy * dry / 1000 ≤ 2305843009213693952 := by omega
            have hpk := Lib.hid fun W => pick_any ((xx * dry + 999) / 1000) (yy * dry / 1000) uu W (by omega) (by omega) hub
            have hnew := Lib.hid fun v (h1 : (xx * dry + 999) / 1000 ≤ v) (h2 : v ≤ yy * dry / 1000) => tr_peat hx hdo hT.out h1 h2
            clear q1 q2
            generalize hlo : (xx * dry + 999) / 1000 = lo at *
            generalize hhi : yy * dry / 1000 = hi at *
            have r4 : IntKind.i64.wrap lo = lo := IntWalk.i64_in _ (by omega)
            have r5 : IntKind.i64.wrap hi = hi := IntWalk.i64_in _ (by omega)
            clear hhi hlo
            by_cases hle : lo ≤ hi
            · have hin := pick_in (u := uu) hle
              have hpb : pickB lo hi = true := by simpa [pickB] using hle
              generalize pickN lo hi uu = v at *
              rw [hpb] at hpk
              have hT' := hnew.out v hin.1 hin.2
              obtain ⟨⟨ld0, ld1⟩, ⟨lw0, lw1⟩, ⟨lp0, lp1⟩, ⟨lt0, lt1⟩, ⟨lg0, lg1⟩, ⟨lr0, lr1⟩, ⟨ls0, ls1⟩⟩ := id hT'
              dsimp only at ld0 ld1 lw0 lw1 lp0 lp1 lt0 lt1 lg0 lg1 lr0 lr1 ls0 ls1
              obtain ⟨⟨md0, md1, md2⟩, ⟨mw0, mw1, mw2⟩, ⟨mp0, mp1, mp2⟩, ⟨mt0, mt1, mt2⟩, ⟨mg0, mg1, mg2⟩, ⟨mr0, mr1, mr2⟩, ⟨ms0, ms1, ms2⟩⟩ := hgo'.out
              have hS' : Tr.Sum ⟨dry, wat, phe + v, tak, gas, rt, stm⟩ first := by
                have := hS.out
                unfold Tr.Sum at this ⊢
                dsimp only at this ⊢
                omega
              replace hT' := Lib.hid hT'
              replace hS' := Lib.hid hS'
              clear hnew hin hle hpb hT hS hdo hgo
              go_wp2_with fail
              refine (hpk.out _).mono ?_
              rintro e W6 ⟨rfl, hb⟩
              replace b7 := b7.below hb b7.lt
              replace b8 := b8.below hb b8.lt
              replace hB := hB.trans (hb.mono hB.size)
              clear hb hpk b23 s0 s1 s2 hy
              go_wp2_with fail
              go_roundw
              case rel => exact ⟨k + 1, g', ⟨dry, wat, phe + v, tak, gas, rt, stm⟩, by omega, by go_num, rfl, rfl, rfl, rfl, rfl, rfl, rfl, hB, b7, b8, hgo', hT', hS', hpl3⟩
              case measure => simp [intOf]; omega
            · have hpn : pickN lo hi uu = 0 := pick_none hle
              have hpb : pickB lo hi = false := by simpa [pickB] using hle
              rw [hpn, hpb] at hpk
              clear hnew hle hpn hpb hT hS hdo hgo hgo' hpl3
              go_wp2_with fail
              refine (hpk.out _).mono ?_
              rintro e W6 ⟨rfl, hb⟩
              replace hB := hB.trans (hb.mono hB.size)
              clear hb hpk b7 b8 b23 s0 s1 s2 hy
              go_wp2_with fail
              refine (h7.out _).mono ?_
              rintro e W99 ⟨rfl, hb⟩
              go_wp2_with fail
              go_ret
              exact ⟨rfl, hB.trans (hb.mono hB.size)⟩
          · have hx : SpOk xx yy 1099511627776 := sx
            obtain ⟨hx0, hx1, hx2⟩ := id hx
            have lob : 0 ≤ xx ∧ xx ≤ 2305843009213693952 := by omega
            have hib : 0 ≤ min yy dry ∧ min yy dry ≤ 2305843009213693952 := by omega
            have hpk := Lib.hid fun W => pick_any (xx) (min yy dry) uu W (by omega) (by omega) hub
            have hnew := Lib.hid fun v (h1 : xx ≤ v) (h2 : v ≤ min yy dry) => tr_sieve hdo hT.out h1 h2
            have hmin : (if dry < yy then dry else yy) = min yy dry := by split <;> omega
            generalize hhi : min yy dry = hi at *
            have hhv := Lib.hid hhi
            clear hhi
            by_cases hle : xx ≤ hi
            · have hin := pick_in (u := uu) hle
              have hpb : pickB xx hi = true := by simpa [pickB] using hle
              generalize pickN xx hi uu = v at *
              rw [hpb] at hpk
              have hT' := hnew.out v hin.1 hin.2
              obtain ⟨⟨ld0, ld1⟩, ⟨lw0, lw1⟩, ⟨lp0, lp1⟩, ⟨lt0, lt1⟩, ⟨lg0, lg1⟩, ⟨lr0, lr1⟩, ⟨ls0, ls1⟩⟩ := id hT'
              dsimp only at ld0 ld1 lw0 lw1 lp0 lp1 lt0 lt1 lg0 lg1 lr0 lr1 ls0 ls1
              obtain ⟨⟨md0, md1, md2⟩, ⟨mw0, mw1, mw2⟩, ⟨mp0, mp1, mp2⟩, ⟨mt0, mt1, mt2⟩, ⟨mg0, mg1, mg2⟩, ⟨mr0, mr1, mr2⟩, ⟨ms0, ms1, ms2⟩⟩ := hgo'.out
              have hS' : Tr.Sum ⟨dry - v, wat, phe, tak, gas, rt + v, stm⟩ first := by
                have := hS.out
                unfold Tr.Sum at this ⊢
                dsimp only at this ⊢
                omega
              replace hT' := Lib.hid hT'
              replace hS' := Lib.hid hS'
              clear hnew hin hle hpb hT hS hdo hgo hhv
              go_wp2_with fail
              refine (hpk.out _).mono ?_
              rintro e W6 ⟨rfl, hb⟩
              replace b7 := b7.below hb b7.lt
              replace b8 := b8.below hb b8.lt
              replace hB := hB.trans (hb.mono hB.size)
              clear hb hpk b23 s0 s1 s2 hy
              go_wp2_with fail
              go_roundw
              case rel => exact ⟨k + 1, g', ⟨dry - v, wat, phe, tak, gas, rt + v, stm⟩, by omega, by go_num, rfl, rfl, rfl, rfl, rfl, rfl, rfl, hB, b7, b8, hgo', hT', hS', hpl3⟩
              case measure => simp [intOf]; omega
            · have hpn : pickN xx hi uu = 0 := pick_none hle
              have hpb : pickB xx hi = false := by simpa [pickB] using hle
              rw [hpn, hpb] at hpk
              clear hnew hle hpn hpb hT hS hdo hgo hgo' hpl3 hhv
              go_wp2_with fail
              refine (hpk.out _).mono ?_
              rintro e W6 ⟨rfl, hb⟩
              replace hB := hB.trans (hb.mono hB.size)
              clear hb hpk b7 b8 b23 s0 s1 s2 hy
              go_wp2_with fail
              refine (h7.out _).mono ?_
              rintro e W99 ⟨rfl, hb⟩
              go_wp2_with fail
              go_ret
              exact ⟨rfl, hB.trans (hb.mono hB.size)⟩
          · have hx : SpOk xx yy 1099511627776 := sx
            obtain ⟨hx0, hx1, hx2⟩ := id hx
            have r1 : IntKind.i64.wrap (dry + wat) = dry + wat := IntWalk.i64_in _ (by omega)
            by_cases hle : xx ≤ dry + wat ∧ dry + wat ≤ yy
            · have c1 : decide (xx ≤ dry + wat) = true := by simpa using hle.1
              have c2 : decide (dry + wat ≤ yy) = true := by simpa using hle.2
              have hT' := tr_weigh hdo hT.out hle.1 hle.2
              replace hT' := Lib.hid hT'
              clear hle hT hdo hgo
              go_wp2_with fail
              go_roundw
              case rel => exact ⟨k + 1, g', ⟨dry, wat, phe, tak, gas, rt, stm⟩, by omega, by go_num, rfl, rfl, rfl, rfl, rfl, rfl, rfl, hB, b7, b8, hgo', hT', hS, hpl3⟩
              case measure => simp [intOf]; omega
            · have hcc : decide (xx ≤ dry + wat) = false ∨ (decide (xx ≤ dry + wat) = true ∧ decide (dry + wat ≤ yy) = false) := by
                by_cases h1 : xx ≤ dry + wat
                · exact .inr ⟨by simpa using h1, by simpa using fun h2 => hle ⟨h1, h2⟩⟩
                · exact .inl (by simpa using h1)
              clear hle hT hS hdo hgo hgo' hpl3
              rcases hcc with c1 | ⟨c1, c2⟩
              all_goals
                go_wp2_with fail
                refine (h7.out _).mono ?_
                rintro e W99 ⟨rfl, hb⟩
                go_wp2_with fail
                go_ret
                exact ⟨rfl, hB.trans (hb.mono hB.size)⟩
        · have hk' : k = l.length := by omega
          subst hk'
          have hpl2 := hpl.out
          rw [List.drop_length, playG] at hpl2
          obtain rfl : g = ⟨qd1, qd2, qw1, qw2, qp1, qp2, qt1, qt2, qg1, qg2, qr1, qr2, qs1, qs2⟩ := congrArg Prod.fst hpl2
          clear hpl hpl2
          obtain ⟨dry, wat, phe, tak, gas, rt, stm⟩ := T
          dsimp only
          obtain ⟨⟨hd0, hd1, hd2⟩, ⟨hw0, hw1, hw2⟩, ⟨hp0, hp1, hp2⟩, ⟨ht0, ht1, ht2⟩, ⟨hg0, hg1, hg2⟩, ⟨hr0, hr1, hr2⟩, ⟨hs0, hs1, hs2⟩⟩ := hgo.out
          obtain ⟨⟨id0, id1⟩, ⟨iw0, iw1⟩, ⟨ip0, ip1⟩, ⟨it0, it1⟩, ⟨ig0, ig1⟩, ⟨ir0, ir1⟩, ⟨is0, is1⟩⟩ := hT.out
          dsimp only at id0 id1 iw0 iw1 ip0 ip1 it0 it1 ig0 ig1 ir0 ir1 is0 is1 hd0 hd1 hd2 hw0 hw1 hw2 hp0 hp1 hp2 ht0 ht1 ht2 hg0 hg1 hg2 hr0 hr1 hr2 hs0 hs1 hs2
          have hsum := hS.out
          unfold Tr.Sum at hsum
          dsimp only at hsum
          obtain ⟨y0, y1, y2, y3, y4, y5⟩ := b7.facts6
          obtain ⟨z0, z1, z2, z3, z4, z5, z6, z7⟩ := b8.facts8
          have rs1 : IntKind.i64.wrap (first + tak) = first + tak := IntWalk.i64_in _ (by omega)
          have rs2 : IntKind.i64.wrap (dry + wat) = dry + wat := IntWalk.i64_in _ (by omega)
          have rs3 : IntKind.i64.wrap (dry + wat + gas) = dry + wat + gas := IntWalk.i64_in _ (by omega)
          have rs4 : IntKind.i64.wrap (dry + wat + gas + rt) = dry + wat + gas + rt := IntWalk.i64_in _ (by omega)
          have rs5 : IntKind.i64.wrap (dry + wat + gas + rt + stm) = dry + wat + gas + rt + stm := IntWalk.i64_in _ (by omega)
          clear hS
          go_wp2_with fail
          refine (has_true qd1 qd2 dry _ ⟨by omega, by omega⟩).mono ?_
          rintro e W10 ⟨rfl, hb⟩
          replace b7 := b7.below hb b7.lt
          replace b8 := b8.below hb b8.lt
          replace hB := hB.trans (hb.mono hB.size)
          clear hb y0 y1 y2 y3 y4 y5 z0 z1 z2 z3 z4 z5 z6 z7
          obtain ⟨y0, y1, y2, y3, y4, y5⟩ := b7.facts6
          obtain ⟨z0, z1, z2, z3, z4, z5, z6, z7⟩ := b8.facts8
          go_wp2_with fail
          refine (has_true qw1 qw2 wat _ ⟨by omega, by omega⟩).mono ?_
          rintro e W11 ⟨rfl, hb⟩
          replace b7 := b7.below hb b7.lt
          replace b8 := b8.below hb b8.lt
          replace hB := hB.trans (hb.mono hB.size)
          clear hb y0 y1 y2 y3 y4 y5 z0 z1 z2 z3 z4 z5 z6 z7
          obtain ⟨y0, y1, y2, y3, y4, y5⟩ := b7.facts6
          obtain ⟨z0, z1, z2, z3, z4, z5, z6, z7⟩ := b8.facts8
          go_wp2_with fail
          refine (has_true qp1 qp2 phe _ ⟨by omega, by omega⟩).mono ?_
          rintro e W12 ⟨rfl, hb⟩
          replace b7 := b7.below hb b7.lt
          replace b8 := b8.below hb b8.lt
          replace hB := hB.trans (hb.mono hB.size)
          clear hb y0 y1 y2 y3 y4 y5 z0 z1 z2 z3 z4 z5 z6 z7
          obtain ⟨y0, y1, y2, y3, y4, y5⟩ := b7.facts6
          obtain ⟨z0, z1, z2, z3, z4, z5, z6, z7⟩ := b8.facts8
          go_upto_if 310 with fail
          refine wp_cond_false (by simp [Act.eval]) ?_
          refine wp_skip ?_
          rename_i K aK
          exact aK _ _ (cons_tail _ _ _ _ _ _ _ _ _ _ _ _ _ _ _ _ _ _ _ _ _ _ _ _ _ _ _ _ _ _ _ _ _ _ _ _ _ _ _ _ _ _ _ _ _ _ _ _ _ _ _ _ _ _ _ _ _ _ _ _ _ _ _ _ _ _ _ _ _ _ _ _ _ _ _ _ _ _ _ _ _ _ _ _ _ _ _ _ _ _ _ _ _ _ _ _ _ _ _ _ _ _ _ _ _ _ _ _ _ _ _ _ _ _ _ _ _ _ _ _ _ _ _ _ _ _ _ _ _ _ _ _ _ _ _ _ _ _ _ _ _ _ _ _ _ _ _ _ _ _ _ _ _ _ _ _ _ _ _ _ _ _ _ _ _ _ _ _ _ _ _ _ _ _ _ _ _ _ _ _ _ _ _ _ _ _ _ _ _ _ _ _ _ _ _ _ _ _ _ _ _ _ _ _ _ _ _ _ _ _ _ _ _ _ _ _ _ _ _ _ _ _ _ _ _ _ _ _ _ _ _ _ _ _ _ _ _ _ _ _ _ _ _ _ _ _ _ _ _ _ _ _ _ _ _ _ _ _ _ _ _ _ _ _ _ _ _ _ _ _ _ _ _ _ _ _ _ _ _ _ _ _ _ _ _ _ _ _ _ _ _ _ _ _ _ _ _ _ _ _ _ _ _ _ _ _ _ _ _ _ _ _ _ _ _ _ _ _ _ _ _ _ _ _ _ _ _ _ _ _ _ _ _ _ _ _ _ _ _ _ _ _ _ _ _ _ _ _ _ _ _ _ _ _ _ _ _ _ _ _ _ _ _ _ _ _ _ _ _ _ _ _ _ _ _ _ _ _ _ _ _ _ _ _ _ _ _ _ _ _ _ _ g7 dry wat phe tak gas rt stm qd1 qd2 qw1 qw2 qp1 qp2 qt1 qt2 qg1 qg2 qr1 qr2 qs1 qs2 w _ hB b7 b8 hgo hT)
    · obtain ⟨hz, hi⟩ := herr.out hc
      simp only [Gr.zero, Gr.mk.injEq] at hz
      obtain ⟨rfl, rfl, rfl, rfl, rfl, rfl, rfl, rfl, rfl, rfl, rfl, rfl, rfl, rfl⟩ := hz
      have hc' : (code == 0) = false := by simpa using hc
      have hi0 : idx ≤ l.length := hi
      have hi' : decide ((idx : Int) ≤ l.length) = true := by simp; omega
      have hi2 : decide (0 ≤ (idx : Int)) = true := by simp
      obtain ⟨y0, y1, y2, y3, y4, y5⟩ := b7.facts6
      obtain ⟨z0, z1, z2, z3, z4, z5, z6, z7⟩ := b8.facts8
      clear herr hokk hc hi
      go_wp2_with fail
      refine (h7.out _).mono ?_
      rintro e W99 ⟨rfl, hb⟩
      go_wp2_with fail
      go_ret
      exact ⟨rfl, hB.trans (hb.mono hB.size)⟩
end Go.Proofs.Ytdadpfgcjffclaa
