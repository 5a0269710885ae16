/- WashBound returns true, whatever comes in. -/
import Derived.Test.YtjcadgklamhohaaAlive
import Derived.Test.YtjcadgklamhohaaBoundMath
import Derived.Test.YtjcadgklamhohaaWords
namespace Go.Proofs.Ytjcadgklamhohaa
open Go.RowKit Go.Sort
attribute [local go_sem] Oper.calm Oper.calmAt Oper.calmUpon

set_option maxHeartbeats 16000000 in
set_option maxRecDepth 100000 in
theorem law_bound (m v u : Int) (A : Option Addr) (c : Nat) (us : List Int) (w : World) (hu : 0 ≤ u ∧ u ≤ 4294967295) (hat : WordsAt w A us) (hlen : us.length ≤ 140737488355328) (hub : ∀ x ∈ us, 0 ≤ x ∧ x ≤ 4294967295) :
    Calls Try.prog 13 #[.int .i64 m, .int .i64 v, .int .u32 u, .slice A us.length c] w fun e w' => e = .returned (.bool true) ∧ Below w.heap.size w w' := by
  have h1 := Lib.hid fun m v W => Bound_any m v W
  have h2 := Lib.hid fun (s : Int × Int) (A' : Option Addr) (c' : Nat) (L : List (Int × Int)) (W : World) (hs : SpansAt W A' L) (hL : L.length ≤ 60) => Air_any s.1 s.2 A' c' L v W (Lib.hid hs) (by omega)
  have h3 := Lib.hid alive_any
  have hlw := Lib.hid fun W (hb : Below w.heap.size w W) => hat.below hb
  obtain ⟨i0, hi, hz0, hz1, hz2⟩ := info_parts info_span
  replace hz0 := Lib.hid hz0
  replace hz1 := Lib.hid hz1
  replace hz2 := Lib.hid hz2
  replace hi := Lib.hid hi
  replace hub := Lib.hid hub
  clear hat
  go_enter Try.func13, Try.ntmps13
  go_wp2_with fail
  refine (h1.out _ _ _).mono ?_
  rintro e W1 ⟨b, k, rfl, hr, hB⟩
  rcases hr with ⟨_, rfl, rfl⟩ | ⟨⟨m0, v0⟩, ⟨rfl, m1, rfl, rfl⟩ | ⟨hok, hb, rfl⟩⟩
  · clear h1 h2 hi hz0 hz1 hz2 hlw hub
    go_wp2_with fail
    refine (h3.out _).mono ?_
    rintro e W2 ⟨rfl, hb⟩
    go_wp2_with fail
    go_ret
    exact ⟨rfl, hB.trans (hb.mono hB.size)⟩
  · have q1 : decide (0 < m) = true := by simp; omega
    clear h1 h2 hi hz0 hz1 hz2 hlw hub m0 m1 v0
    go_wp2_with fail
    refine (h3.out _).mono ?_
    rintro e W2 ⟨rfl, hb⟩
    go_wp2_with fail
    go_ret
    exact ⟨rfl, hB.trans (hb.mono hB.size)⟩
  obtain ⟨bf0, bf1, bf2⟩ := bound_facts m0.1 v0 hok hb
  have q1 : decide (m < 0) = false := by simp; omega
  have q2 : decide (v < 0) = false := by simp; omega
  have q3 : decide (1000 < v) = false := by simp; omega
  have q4 : decide (b < 0) = false := by simp; omega
  have halive : ∀ (P : Prop), True := fun _ => trivial
  clear halive
  by_cases c1 : 1048576 < m
  · have q5 : decide (1048576 < m) = true := by simpa using c1
    clear h1 h2 hi hz0 hz1 hz2 hlw hub m0 v0 hok hb bf0 bf1 bf2 c1
    go_wp2_with fail
    refine (h3.out _).mono ?_
    rintro e W2 ⟨rfl, hb⟩
    go_wp2_with fail
    go_ret
    exact ⟨rfl, hB.trans (hb.mono hB.size)⟩
  have q5 : decide (1048576 < m) = false := by simpa using c1
  by_cases c2 : 268435456 < b
  · have q6 : decide (268435456 < b) = true := by simpa using c2
    clear h1 h2 hi hz0 hz1 hz2 hlw hub m0 v0 hok hb bf0 bf1 bf2 c1 c2
    go_wp2_with fail
    refine (h3.out _).mono ?_
    rintro e W2 ⟨rfl, hb⟩
    go_wp2_with fail
    go_ret
    exact ⟨rfl, hB.trans (hb.mono hB.size)⟩
  have q6 : decide (268435456 < b) = false := by simpa using c2
  by_cases c3 : 60 < us.length
  · have q7 : decide ((60 : Int) < us.length) = true := by simp; omega
    clear h1 h2 hi hz0 hz1 hz2 hlw hub m0 v0 hok hb bf0 bf1 bf2 c1 c2 c3
    go_wp2_with fail
    refine (h3.out _).mono ?_
    rintro e W2 ⟨rfl, hb⟩
    go_wp2_with fail
    go_ret
    exact ⟨rfl, hB.trans (hb.mono hB.size)⟩
  have q7 : decide ((60 : Int) < us.length) = false := by simp; omega
  -- what is true of the numbers
  have hless : Hid (∀ v', v ≤ v' → v' ≤ 1000 → 0 < v' → ∀ c k, BoundIs m v' c k → k = 0 ∧ c ≤ b) := Lib.hid fun v' g1 g2 g3 c k h => by
    rcases h with ⟨g, _⟩ | ⟨_, ⟨g, _⟩ | ⟨_, rfl, rfl⟩⟩
    · exact absurd ⟨m0, by omega, g2⟩ g
    · omega
    · exact ⟨rfl, bound_less m0.1 v0.1 bf1 bf0 g1 g2 g3⟩
  have hback := Lib.hid fun (hb0 : 0 < b) k (r : List (Int × Int)) (h : AirIs (b - 1, b - 1) [(m, m)] v r k) => air_back ⟨m0.1, by omega⟩ ⟨hb0, by omega⟩ v0 (bf2 hb0) h
  have hw1 : IntKind.i64.wrap u = u := IntWalk.i64_in _ (by omega)
  have hw2 : IntKind.i64.wrap (b + 1) = b + 1 := IntWalk.i64_in _ (by omega)
  have hw3 : IntKind.i64.wrap (b - 1) = b - 1 := IntWalk.i64_in _ (by omega)
  have hw4 : IntKind.i64.wrap (m + 1) = m + 1 := IntWalk.i64_in _ (by omega)
  have hw5 : IntKind.i64.wrap (v + 1) = v + 1 := IntWalk.i64_in _ (by omega)
  have t1 : u.tmod (b + 1) = u % (b + 1) := Int.tmod_eq_emod_of_nonneg hu.1
  have n1 : ¬ b + 1 = 0 := by omega
  have n4 : ¬ m + 1 = 0 := by omega
  have n2 := Int.emod_nonneg u n1
  have n3 := Int.emod_lt_of_pos u (show 0 < b + 1 by omega)
  have hkeep := Lib.hid fun (k : Int) (r : List (Int × Int)) (h : AirIs (0, u % (b + 1)) (inL m us) v r k) => air_keeps (by omega) (by omega) v0 bf1 ⟨n2, by omega⟩ (inL_in m0.1) (by rw [inL_len]; omega) h
  have hvv := Lib.hid v0
  have hmm := Lib.hid (show 0 ≤ m ∧ m ≤ 1048576 from ⟨m0.1, by omega⟩)
  have hbb := Lib.hid (show 0 ≤ b ∧ b ≤ 268435456 from ⟨bf0, by omega⟩)
  have hl60 : us.length ≤ 60 := by omega
  generalize u % (b + 1) = s at *
  have hw6 : IntKind.i64.wrap s = s := IntWalk.i64_in _ (by omega)
  clear m0 v0 hok hb bf0 bf1 bf2 c1 c2 c3 n2 n3 hlen
  go_upto_region 9 with fail
  refine wp_world (fun W => Below w.heap.size w W ∧ Blk W W1.heap.size 23 #[.int .i64 0, .int .i64 s]) ⟨hB.alloc hB.size _, Blk.new _ _ _⟩ ?_
  have hg : w.heap.size ≤ W1.heap.size := hB.size
  clear hB
  generalize W1.heap.size = g11 at *
  rintro W2 ⟨hB, b11⟩
  have n3 := b11.lt
  clear t1 n1 hw1 hw2 hw6 q1 q2 q3 q4 q5 q6 q7
  go_wp2_with fail
  go_loopw [12, 86] (fun s12 i wr => ∃ k : Nat, k ≤ us.length ∧ i = .int .i64 k ∧ wr.ownsRow (g11 + 1) 23 2 s12 k (((inL m us).take k).flatMap spanCells) ∧ Below w.heap.size w wr ∧ g11 + 1 ≤ wr.heap.size ∧ Blk wr g11 23 #[.int .i64 0, .int .i64 s]) (fun _ i _ => us.length - (intOf i).toNat)
  case atStart => exact ⟨0, Nat.zero_le _, rfl, World.ownsRow_nil _ _ _ _, hB, n3, b11⟩
  case round =>
    clear hB b11 n3
    obtain ⟨k, hk, rfl, hown, hB, n3, b11⟩ := hrel
    by_cases hlt : k < us.length
    · obtain ⟨bb, off, rfl, hbl, hc⟩ := (hlw.out _ hB) (by omega)
      have e0 := hc k hlt
      have hlt' : (k : Int) < us.length := by omega
      have hxb := hub.out (us[k]?.getD 0) (by simp [hlt])
      have hsu := Lib.hid (inL_take (m := m) hlt)
      clear hc hbl h1 h2 h3 hless hback hkeep hub
      generalize us[k]?.getD 0 = x at *
      have w1 : IntKind.i64.wrap x = x := IntWalk.i64_in _ (by omega)
      have t1 : x.tmod (m + 1) = x % (m + 1) := Int.tmod_eq_emod_of_nonneg hxb.1
      have y1 := Int.emod_nonneg x n4
      have y2 := Int.emod_lt_of_pos x (show 0 < m + 1 by have := hmm.out; omega)
      generalize x % (m + 1) = y at *
      have w2 : IntKind.i64.wrap y = y := IntWalk.i64_in _ (by have := hmm.out; omega)
      clear y1 y2 hxb
      go_wp2_with (at_builtin; refine wpList_append_own _ rfl _ _ 34 rfl (g11 + 1) 23 i0 (.agg #[.int .i64 0, .int .i64 0]) 2 16 Try.underlying34 hi.out hz0.out hz1.out hz2.out rfl (by decide) _ _ _ rfl (hown.alloc _) ⟨wr.heap.size, 0, none⟩ 1 1 [.int .i64 0, .int .i64 y] rfl rfl ?c1 ?c2 ?c3 ?c4 ?c5 ?_)
      case c1 =>
        intro j' u hj'
        rw [Go.WideShapes.add_plain, Nat.zero_add, (Blk.new _ _ _).cell]
        simpa using hj'
      case c2 => intro u hu'; simp at hu'; rcases hu' with rfl | rfl <;> rfl
      case c3 => unfold maxLen; omega
      case c4 => omega
      case c5 => simp; omega
      intro v' w1 hown' hgrow _
      have hob := hown.lt
      have hB' : Below w.heap.size w w1 := (hB.alloc hB.size _).grown hgrow (by simp; omega) (fun x hx => by have := (hob x hx).1; omega)
      have hsz' : g11 + 1 ≤ w1.heap.size := by have := hgrow.size; simp at this; omega
      have bx' : Blk w1 g11 23 #[.int .i64 0, .int .i64 s] := (hgrow.block g11 (by simp; omega) (fun hx => by have := (hob g11 hx.symm).1; omega)).trans (b11.alloc _)
      clear hob hgrow hown hB b11 e0
      go_wp2
      go_roundw
      case rel => exact ⟨k + 1, by omega, by go_num, by rw [hsu.out]; simpa [spanCells] using hown', hB', hsz', bx'⟩
      case measure => simp [intOf]; omega
    · have hk' : k = us.length := by omega
      subst hk'
      have hown1 : wr.ownsRow (g11 + 1) 23 2 u12 (inL m us).length ((inL m us).flatMap spanCells) := by
        rw [inL_len]
        rwa [List.take_of_length_le (by rw [inL_len]; omega)] at hown
      obtain ⟨B, cb, rfl, _, hsp, _⟩ := owns_spans hown1
      have hlL := Lib.hid (inL_len (m := m) (us := us))
      have kA := Lib.hid fun W (hs : SpansAt W B (inL m us)) => h2.out (0, s) B cb _ W hs (by rw [inL_len]; omega)
      rw [← hlL.out]
      have hL60 : (inL m us).length ≤ 60 := by rw [inL_len]; exact hl60
      generalize hLL : inL m us = L at *
      clear hLL hlL hown hown1 hi hz0 hz1 hz2 hlw hub hlt n3 n4 hw4
      obtain ⟨z0, z1, _, _⟩ := b11.facts2
      go_wp2_with fail
      refine (kA.out _ hsp).mono ?_
      rintro e W3 ⟨r, k, A1, c1, rfl, hr, hs1, _, hb⟩
      obtain ⟨rfl, hrl, hrr⟩ := hkeep.out _ _ hr
      replace hB := hB.trans (hb.mono hB.size)
      replace hrr := Lib.hid hrr
      replace hs1 := Lib.hid hs1
      clear hb hr hkeep kA hsp z0 z1 b11
      have q8 : ((r.length : Int) == (L.length : Int)) = true := by simp [hrl]
      have hr60 : r.length ≤ 60 := by omega
      replace hrl := Lib.hid hrl
      go_wp2_with fail
      go_loopw [118] (fun i wr => ∃ k : Nat, k ≤ r.length ∧ i = .int .i64 k ∧ Below w.heap.size w wr ∧ Hid (SpansAt wr A1 r)) (fun i _ => r.length - (intOf i).toNat)
      case atStart => exact ⟨0, Nat.zero_le _, rfl, hB, hs1⟩
      case round =>
        clear hB hs1
        obtain ⟨k, hk, rfl, hB, hs1⟩ := hrel
        by_cases hlt : k < r.length
        · obtain ⟨bb, off, rfl, hbl, hc⟩ := hs1.out (by omega)
          obtain ⟨e0, e1⟩ := hc k hlt
          obtain ⟨f0, f1⟩ := hrr.out k hlt
          have hlt' : (k : Int) < r.length := by omega
          rw [f0] at e0
          have q9 : decide (b < (r[k]?.getD (0, 0)).2) = false := by simpa using f1
          clear hc hbl f0 f1 h1 h2 h3 hless hback
          generalize (r[k]?.getD (0, 0)).2 = y at *
          go_upto_region 21 with fail
          refine wp_world (fun W => Below w.heap.size w W ∧ Blk W wr.heap.size 23 #[.int .i64 0, .int .i64 y] ∧ Hid (SpansAt W (some ⟨bb, off, none⟩) r)) ⟨hB.alloc hB.size _, Blk.new _ _ _, Lib.hid (hs1.out.later ((Below.refl _ _).alloc (Nat.le_refl _) _))⟩ ?_
          clear hB hs1 e0 e1
          generalize wr.heap.size = g18
          rintro W5 ⟨hB, b18, hs1⟩
          obtain ⟨z0, z1, _, _⟩ := b18.facts2
          go_wp2_with fail
          go_roundw
          case rel => exact ⟨k + 1, by omega, by go_num, hB, hs1⟩
          case measure => simp [intOf]; omega
        · have hk' : k = r.length := by omega
          subst hk'
          clear hs1 hrr hrl q8
          have hfin : Hid (∀ W, Below w.heap.size w W → Below w.heap.size w W) := Lib.hid fun _ h => h
          clear hfin
          by_cases hb0 : 0 < b
          · have q10 : decide (0 < b) = true := by simpa using hb0
            replace hback := Lib.hid (hback.out hb0)
            go_wp2_with fail
            refine calls_world (fun W => Below w.heap.size w W ∧ Blk W wr.heap.size 23 #[.int .i64 m, .int .i64 m]) ⟨hB.alloc hB.size _, Blk.new _ _ _⟩ ?_
            clear hB
            generalize wr.heap.size = g19
            rintro W5 ⟨hB, b19⟩
            refine (h2.out (b - 1, b - 1) _ _ [(m, m)] _ (spans_one b19) (by simp)).mono ?_
            rintro e W6 ⟨r2, k2, A2, c2, rfl, hr2, hs2, _, hb⟩
            obtain ⟨rfl, hr2l, hr2b⟩ := hback.out _ _ hr2
            replace hB := hB.trans (hb.mono hB.size)
            obtain ⟨bb, off, rfl, hbl, hc⟩ := hs2 (by omega)
            obtain ⟨e0, e1⟩ := hc 0 (by omega)
            rw [Nat.zero_mul, Nat.add_zero] at e0 e1
            have q11 : decide ((r2[0]?.getD (0, 0)).2 < b) = false := by simpa using hr2b
            clear hr2b hc hs2 hr2 hb h2 hback b19 hbl
            generalize (r2[0]?.getD (0, 0)).2 = y at *
            generalize (r2[0]?.getD (0, 0)).1 = y' at *
            rw [hr2l]
            go_wp2_with fail
            all_goals
              refine (h1.out _ _ _).mono ?_
              rintro e W7 ⟨c3, k3, rfl, hr, hb⟩
              obtain ⟨rfl, hle⟩ := hless.out _ (by have := hvv.out; omega) (by have := hvv.out; omega) (by have := hvv.out; omega) _ _ hr
              have q12 : decide (c3 ≤ b) = true := by simpa using hle
              replace hB := hB.trans (hb.mono hB.size)
              clear hb hr hle hless h1
              go_wp2_with fail
              refine (h3.out _).mono ?_
              rintro e W8 ⟨rfl, hb⟩
              go_wp2_with fail
              go_ret
              exact ⟨rfl, hB.trans (hb.mono hB.size)⟩
          · have q10 : decide (0 < b) = false := by simpa using hb0
            clear hback h2
            go_wp2_with fail
            all_goals
              refine (h1.out _ _ _).mono ?_
              rintro e W7 ⟨c3, k3, rfl, hr, hb⟩
              obtain ⟨rfl, hle⟩ := hless.out _ (by have := hvv.out; omega) (by have := hvv.out; omega) (by have := hvv.out; omega) _ _ hr
              have q12 : decide (c3 ≤ b) = true := by simpa using hle
              replace hB := hB.trans (hb.mono hB.size)
              clear hb hr hle hless h1
              go_wp2_with fail
              refine (h3.out _).mono ?_
              rintro e W8 ⟨rfl, hb⟩
              go_wp2_with fail
              go_ret
              exact ⟨rfl, hB.trans (hb.mono hB.size)⟩
end Go.Proofs.Ytjcadgklamhohaa
