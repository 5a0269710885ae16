/- StrengthMixes returns true, whatever the parts and the numbers are. -/
import Derived.Test.YtcghafdemklnnaaRefMixed
namespace Go.Proofs.Ytcghafdemklnnaa
open Go.RowKit Go.Sort
attribute [local go_sem] Oper.calm Oper.calmAt Oper.calmUpon

theorem PureIs.uniq {al ah sl sh a b k a' b' k' : Int} (h : PureIs al ah sl sh a b k) (h' : PureIs al ah sl sh a' b' k') : a = a' ∧ b = b' ∧ k = k' := by
  rcases h with ⟨h0, rfl, rfl, rfl⟩ | ⟨h0, rfl, rfl, rfl⟩ <;> rcases h' with ⟨h1, rfl, rfl, rfl⟩ | ⟨h1, rfl, rfl, rfl⟩
  · exact ⟨rfl, rfl, rfl⟩
  · exact absurd h1 h0
  · exact absurd h0 h1
  · exact ⟨rfl, rfl, rfl⟩
theorem WaterIs.uniq {al ah sl sh t a k a' k' : Int} (h : WaterIs al ah sl sh t a k) (h' : WaterIs al ah sl sh t a' k') : a = a' ∧ k = k' := by
  rcases h with ⟨h0, rfl, rfl⟩ | ⟨h0, h⟩ <;> rcases h' with ⟨h1, rfl, rfl⟩ | ⟨h1, h'⟩
  · exact ⟨rfl, rfl⟩
  · exact absurd h1 h0
  · exact absurd h0 h1
  · rcases h with ⟨h2, rfl, rfl⟩ | ⟨h2, h⟩ <;> rcases h' with ⟨h3, rfl, rfl⟩ | ⟨h3, h'⟩
    · exact ⟨rfl, rfl⟩
    · exact absurd h3 h2
    · exact absurd h2 h3
    · rcases h with ⟨h4, rfl, rfl⟩ | ⟨h4, rfl, rfl⟩ <;> rcases h' with ⟨h5, rfl, rfl⟩ | ⟨h5, rfl, rfl⟩
      · exact ⟨rfl, rfl⟩
      · omega
      · omega
      · exact ⟨rfl, rfl⟩
theorem MixIs.uniq {ps : List PartV} {s a b c d k a' b' c' d' k' : Int} (h : MixIs ps s a b c d k) (h' : MixIs ps s a' b' c' d' k') : a = a' ∧ b = b' ∧ c = c' ∧ d = d' ∧ k = k' := by
  rcases h with ⟨h0, rfl, rfl, rfl, rfl, rfl⟩ | ⟨h0, h⟩ <;> rcases h' with ⟨h1, rfl, rfl, rfl, rfl, rfl⟩ | ⟨h1, h'⟩
  · exact ⟨rfl, rfl, rfl, rfl, rfl⟩
  · omega
  · omega
  · rcases h with ⟨h2, rfl, rfl, rfl, rfl, rfl⟩ | ⟨h2, h⟩ <;> rcases h' with ⟨h3, rfl, rfl, rfl, rfl, rfl⟩ | ⟨h3, h'⟩
    · exact ⟨rfl, rfl, rfl, rfl, rfl⟩
    · exact absurd h3 h2
    · exact absurd h2 h3
    · rcases h with ⟨h4, rfl, rfl, rfl, rfl, rfl⟩ | ⟨h4, h⟩ <;> rcases h' with ⟨h5, rfl, rfl, rfl, rfl, rfl⟩ | ⟨h5, h'⟩
      · exact ⟨rfl, rfl, rfl, rfl, rfl⟩
      · exact absurd h5 h4
      · exact absurd h4 h5
      · rcases h with ⟨h6, rfl, rfl, rfl, rfl, rfl⟩ | ⟨h6, h⟩ <;> rcases h' with ⟨h7, rfl, rfl, rfl, rfl, rfl⟩ | ⟨h7, h'⟩
        · exact ⟨rfl, rfl, rfl, rfl, rfl⟩
        · omega
        · omega
        · rcases h with ⟨h8, rfl, rfl, rfl, rfl, rfl⟩ | ⟨h8, rfl, rfl, rfl, rfl, rfl⟩ <;> rcases h' with ⟨h9, rfl, rfl, rfl, rfl, rfl⟩ | ⟨h9, rfl, rfl, rfl, rfl, rfl⟩
          · exact ⟨rfl, rfl, rfl, rfl, rfl⟩
          · exact absurd h8 h9
          · exact absurd h9 h8
          · exact ⟨rfl, rfl, rfl, rfl, rfl⟩

/-- Mix, with no bound on the products -/
theorem Mix_all (A : Option Addr) (c : Nat) (ps : List PartV) (s : Int) (w : World) (hn : ps.length ≤ 140737488355328) (hp : Hid (PartsAt w A ps)) :
    Calls Try.prog 28 #[.slice A ps.length c, .int .i64 s] w (PartErr (MixIs ps s) w) :=
  Mix_any (Lib.hid (divFor_all 1000000000000000000000)) A c ps s w hn hp (Lib.hid fun h1 h2 => by
    obtain ⟨_, _, _, _, g5, g6⟩ := mixIs_sums h1
    omega)

set_option maxHeartbeats 8000000 in
set_option maxRecDepth 100000 in
theorem law_mixes (A : Option Addr) (c : Nat) (ps : List PartV) (s al ah sl sh t : Int) (w : World) (hn : ps.length ≤ 140737488355328) (hp : PartsAt w A ps) (s1 : -9223372036854775808 ≤ s) (s2 : s ≤ 9223372036854775807) (t1 : -9223372036854775808 ≤ t) (t2 : t ≤ 9223372036854775807) :
    Calls Try.prog 5 #[.slice A ps.length c, .int .i64 s, .agg #[.int .i64 al, .int .i64 ah, .int .i64 sl, .int .i64 sh], .int .i64 t] w fun e w' => e = .returned (.bool true) ∧ Below w.heap.size w w' := by
  have hal := Lib.hid alive_any
  by_cases c0 : 70 < ps.length
  · have c0' : (70 : Int) < ps.length := by omega
    go_enter Try.func5, Try.ntmps5
    go_wp2_with fail
    refine (hal.out _).mono ?_
    rintro e W1 ⟨rfl, hb1⟩
    go_wp2
    go_ret
    exact ⟨rfl, ((Below.refl _ _).alloc (Nat.le_refl _) _).trans (hb1.mono (by simp))⟩
  · have c0' : (ps.length : Int) ≤ 70 := by omega
    have hpu := Lib.hid fun W => Pure_any al ah sl sh W
    have hrp := Lib.hid fun W => refPure_any al ah sl sh W
    have hmx := Lib.hid fun W (hb : Below w.heap.size w W) => Mix_all A c ps s W hn (Lib.hid (hp.below hb))
    have hrm := Lib.hid fun W (hb : Below w.heap.size w W) => refMix_any A c ps s W hn (Lib.hid (hp.below hb)) s1 s2
    have hwa := Lib.hid fun W => Water_any al ah sl sh t W
    have hrw := Lib.hid fun W => refWater_any al ah sl sh t W t1 t2
    clear hp
    go_enter Try.func5, Try.ntmps5
    go_wp2_with fail
    refine calls_world (fun W => Below w.heap.size w W ∧ Blk W w.heap.size 41 #[.int .i64 al, .int .i64 ah, .int .i64 sl, .int .i64 sh]) ⟨(Below.refl _ _).alloc (Nat.le_refl _) _, Blk.new _ _ _⟩ ?_
    rintro W0 ⟨hB, b0⟩
    refine (hpu.out _).mono ?_
    rintro e W1 ⟨pa, pb, pk, rfl, hr1, hb⟩
    replace hB := hB.trans (hb.mono hB.size)
    replace b0 := b0.below hb b0.lt
    clear hb
    go_upto_region 4 with fail
    refine wp_world (fun W => Below w.heap.size w W ∧ Blk W w.heap.size 41 #[.int .i64 al, .int .i64 ah, .int .i64 sl, .int .i64 sh] ∧ Blk W W1.heap.size 27 #[.int .i64 pa, .int .i64 pb]) ⟨hB.alloc hB.size _, b0.alloc _, Blk.new _ _ _⟩ ?_
    clear hB b0
    generalize W1.heap.size = g1
    rintro V4 ⟨hB, b0, b1⟩
    obtain ⟨x0, x1, x2, x3, _, _, _, _⟩ := b0.facts4
    go_wp2_with fail
    refine (hrp.out _).mono ?_
    rintro e W2 ⟨_, _, _, rfl, hr2, hb⟩
    obtain ⟨rfl, rfl, rfl⟩ := hr1.uniq hr2
    replace hB := hB.trans (hb.mono hB.size)
    replace b0 := b0.below hb b0.lt
    replace b1 := b1.below hb b1.lt
    clear hb
    clear hr1 hr2 x0 x1 x2 x3 hpu hrp
    go_upto_region 5 with fail
    refine wp_world (fun W => Below w.heap.size w W ∧ Blk W w.heap.size 41 #[.int .i64 al, .int .i64 ah, .int .i64 sl, .int .i64 sh] ∧ Blk W g1 27 #[.int .i64 pa, .int .i64 pb] ∧ Blk W W2.heap.size 27 #[.int .i64 pa, .int .i64 pb]) ⟨hB.alloc hB.size _, b0.alloc _, b1.alloc _, Blk.new _ _ _⟩ ?_
    clear hB b0 b1
    generalize W2.heap.size = g2
    rintro V5 ⟨hB, b0, b1, b2⟩
    go_wp2_with fail
    refine (hmx.out _ hB).mono ?_
    rintro e W3 ⟨ma, mb, mc, md, mk, rfl, hr1, hb⟩
    replace hB := hB.trans (hb.mono hB.size)
    replace b0 := b0.below hb b0.lt
    replace b1 := b1.below hb b1.lt
    replace b2 := b2.below hb b2.lt
    clear hb
    go_upto_region 6 with fail
    refine wp_world (fun W => Below w.heap.size w W ∧ Blk W w.heap.size 41 #[.int .i64 al, .int .i64 ah, .int .i64 sl, .int .i64 sh] ∧ Blk W g1 27 #[.int .i64 pa, .int .i64 pb] ∧ Blk W g2 27 #[.int .i64 pa, .int .i64 pb] ∧ Blk W W3.heap.size 41 #[.int .i64 ma, .int .i64 mb, .int .i64 mc, .int .i64 md]) ⟨hB.alloc hB.size _, b0.alloc _, b1.alloc _, b2.alloc _, Blk.new _ _ _⟩ ?_
    clear hB b0 b1 b2
    generalize W3.heap.size = g3
    rintro V6 ⟨hB, b0, b1, b2, b3⟩
    go_wp2_with fail
    refine (hrm.out _ hB).mono ?_
    rintro e W4 ⟨_, _, _, _, _, rfl, hr2, hb⟩
    obtain ⟨rfl, rfl, rfl, rfl, rfl⟩ := hr1.uniq hr2
    replace hB := hB.trans (hb.mono hB.size)
    replace b0 := b0.below hb b0.lt
    replace b1 := b1.below hb b1.lt
    replace b2 := b2.below hb b2.lt
    replace b3 := b3.below hb b3.lt
    clear hb
    clear hr1 hr2 hmx hrm
    go_upto_region 7 with fail
    refine wp_world (fun W => Below w.heap.size w W ∧ Blk W w.heap.size 41 #[.int .i64 al, .int .i64 ah, .int .i64 sl, .int .i64 sh] ∧ Blk W g1 27 #[.int .i64 pa, .int .i64 pb] ∧ Blk W g2 27 #[.int .i64 pa, .int .i64 pb] ∧ Blk W g3 41 #[.int .i64 ma, .int .i64 mb, .int .i64 mc, .int .i64 md] ∧ Blk W W4.heap.size 41 #[.int .i64 ma, .int .i64 mb, .int .i64 mc, .int .i64 md]) ⟨hB.alloc hB.size _, b0.alloc _, b1.alloc _, b2.alloc _, b3.alloc _, Blk.new _ _ _⟩ ?_
    clear hB b0 b1 b2 b3
    generalize W4.heap.size = g4
    rintro V7 ⟨hB, b0, b1, b2, b3, b4⟩
    obtain ⟨x0, x1, x2, x3, _, _, _, _⟩ := b0.facts4
    go_wp2_with fail
    refine (hwa.out _).mono ?_
    rintro e W5 ⟨wa, wk, rfl, hr1, hb⟩
    replace hB := hB.trans (hb.mono hB.size)
    replace b0 := b0.below hb b0.lt
    replace b1 := b1.below hb b1.lt
    replace b2 := b2.below hb b2.lt
    replace b3 := b3.below hb b3.lt
    replace b4 := b4.below hb b4.lt
    clear hb
    clear x0 x1 x2 x3
    obtain ⟨x0, x1, x2, x3, _, _, _, _⟩ := b0.facts4
    go_wp2_with fail
    refine (hrw.out _).mono ?_
    rintro e W6 ⟨_, _, rfl, hr2, hb⟩
    obtain ⟨rfl, rfl⟩ := hr1.uniq hr2
    replace hB := hB.trans (hb.mono hB.size)
    replace b0 := b0.below hb b0.lt
    replace b1 := b1.below hb b1.lt
    replace b2 := b2.below hb b2.lt
    replace b3 := b3.below hb b3.lt
    replace b4 := b4.below hb b4.lt
    clear hb
    clear hr1 hr2 hwa hrw x0 x1 x2 x3 b0
    obtain ⟨p0, p1, _, _⟩ := b1.facts2
    obtain ⟨q0, q1, _, _⟩ := b2.facts2
    obtain ⟨u0, u1, u2, u3, _, _, _, _⟩ := b3.facts4
    obtain ⟨v0, v1, v2, v3, _, _, _, _⟩ := b4.facts4
    go_wp2_with fail
    refine (hal.out _).mono ?_
    rintro e W7 ⟨rfl, hb⟩
    replace hB := hB.trans (hb.mono hB.size)
    go_wp2
    go_ret
    exact ⟨rfl, hB⟩
end Go.Proofs.Ytcghafdemklnnaa
