/- WashRooms returns true, whatever the rooms are. -/
import Derived.Test.YtjcadgklamhohaaAlive
import Derived.Test.YtjcadgklamhohaaRefRooms
namespace Go.Proofs.Ytjcadgklamhohaa
open Go.RowKit Go.Sort
attribute [local go_sem] Oper.calm Oper.calmAt Oper.calmUpon

/-- more than is looked at, but not too many -/
def LongIs (n a b : Int) : Prop := (a < n ∧ n ≤ b) ∨ b + 4 < n
set_option maxHeartbeats 2000000 in
theorem long_any (n a b : Int) (w : World) (hb : -4611686018427387904 ≤ b ∧ b ≤ 4611686018427387904) : Calls Try.prog 19 #[.int .i64 n, .int .i64 a, .int .i64 b] w (SomeBool (LongIs n a b) w) := by
  have r1 : IntKind.i64.wrap (b + 4) = b + 4 := IntWalk.i64_in _ (by omega)
  by_cases c1 : a < n
  · have q1 : decide (a < n) = true := by simpa using c1
    by_cases c2 : n ≤ b
    · have q2 : decide (n ≤ b) = true := by simpa using c2
      have hf := Lib.hid (show LongIs n a b from .inl ⟨c1, c2⟩)
      clear c1 c2
      go_enter Try.func19, Try.ntmps19
      go_wp2
      go_ret
      exact SomeBool.yes hf.out (Below.refl _ _)
    · have q2 : decide (n ≤ b) = false := by simpa using c2
      by_cases c3 : b + 4 < n
      · have q3 : decide (b + 4 < n) = true := by simpa using c3
        have hf := Lib.hid (show LongIs n a b from .inr c3)
        clear c1 c2 c3
        go_enter Try.func19, Try.ntmps19
        go_wp2
        go_ret
        exact SomeBool.yes hf.out (Below.refl _ _)
      · have q3 : decide (b + 4 < n) = false := by simpa using c3
        have hf := Lib.hid (show ¬ LongIs n a b from fun h => by unfold LongIs at h; omega)
        clear c1 c2 c3
        go_enter Try.func19, Try.ntmps19
        go_wp2
        go_ret
        exact SomeBool.no hf.out (Below.refl _ _)
  · have q1 : decide (a < n) = false := by simpa using c1
    by_cases c3 : b + 4 < n
    · have q3 : decide (b + 4 < n) = true := by simpa using c3
      have hf := Lib.hid (show LongIs n a b from .inr c3)
      clear c1 c3
      go_enter Try.func19, Try.ntmps19
      go_wp2
      go_ret
      exact SomeBool.yes hf.out (Below.refl _ _)
    · have q3 : decide (b + 4 < n) = false := by simpa using c3
      have hf := Lib.hid (show ¬ LongIs n a b from fun h => by unfold LongIs at h; omega)
      clear c1 c3
      go_enter Try.func19, Try.ntmps19
      go_wp2
      go_ret
      exact SomeBool.no hf.out (Below.refl _ _)

set_option maxHeartbeats 8000000 in
set_option maxRecDepth 100000 in
theorem law_rooms (s1 s2 : Int) (A : Option Addr) (c : Nat) (l : List (Int × Int)) (v m t : Int) (w : World) (hl : SpansAt w A l) (hlen : l.length ≤ 140737488355328) :
    Calls Try.prog 6 #[.agg #[.int .i64 s1, .int .i64 s2], .slice A l.length c, .int .i64 v, .int .i64 m, .int .i64 t] w fun e w' => e = .returned (.bool true) ∧ Below w.heap.size w w' := by
  have hlw := Lib.hid fun W (hb : Below w.heap.size w W) => hl.later hb
  have k0 := Lib.hid fun W => long_any l.length 40 200 W (by omega)
  have k1 := Lib.hid fun W (hb : Below w.heap.size w W) => Air_any s1 s2 A c l v W (Lib.hid (hlw.out W hb)) hlen
  have k2 := Lib.hid fun W (hb : Below w.heap.size w W) => rAir_any s1 s2 A c l v W (Lib.hid (hlw.out W hb)) hlen
  have k3 := Lib.hid fun W => Bound_any m v W
  have k4 := Lib.hid fun W => rBound_any m v W
  have k5 := Lib.hid fun W => Vent_any m t W
  have k6 := Lib.hid fun W => rVent_any m t W
  have k7 := Lib.hid alive_any
  have k8 := Lib.hid sameSpans_any
  have hlong := Lib.hid fun r k (h : AirIs (s1, s2) l v r k) => (show r.length ≤ 140737488355328 from by
    rcases h with ⟨_, rfl, _⟩ | ⟨_, ⟨_, rfl, _⟩ | ⟨_, ⟨_, rfl, _⟩ | ⟨_, ⟨_, rfl, _⟩ | ⟨_, rfl, _⟩⟩⟩⟩ <;> first | (simp; done) | (rw [gasN_len]; exact hlen))
  clear hl hlen hlw
  go_enter Try.func6, Try.ntmps6
  go_wp2_with fail
  refine calls_world (fun W => Below w.heap.size w W ∧ Blk W w.heap.size 23 #[.int .i64 s1, .int .i64 s2]) ⟨(Below.refl _ _).alloc (Nat.le_refl _) _, Blk.new _ _ _⟩ ?_
  rintro W0 ⟨hB, b0⟩
  refine (k0.out _).mono ?_
  rintro e W1 ⟨r, rfl, _, hb⟩
  replace b0 := b0.below hb b0.lt
  replace hB := hB.trans (hb.mono hB.size)
  clear hb k0
  cases r with
  | true =>
    go_wp2_with fail
    refine (k7.out _).mono ?_
    rintro e W2 ⟨rfl, hb⟩
    go_wp2_with fail
    go_ret
    exact ⟨rfl, hB.trans (hb.mono hB.size)⟩
  | false =>
    obtain ⟨x0, x1, _, _⟩ := b0.facts2
    go_wp2_with fail
    refine (k1.out _ hB).mono ?_
    rintro e W2 ⟨r1, j1, A1, c1, rfl, hr, hs1, _, hb⟩
    replace hr := Lib.hid hr
    replace hs1 := Lib.hid hs1
    replace b0 := b0.below hb b0.lt
    replace hB := hB.trans (hb.mono hB.size)
    clear hb k1 x0 x1
    obtain ⟨x0, x1, _, _⟩ := b0.facts2
    go_wp2_with fail
    refine (k2.out _ hB).mono ?_
    rintro e W3 ⟨r2, j2, A2, c2, rfl, hr', hs2, _, hb⟩
    obtain ⟨rfl, rfl⟩ := hr.out.uniq hr'
    replace hlong := hlong.out _ _ hr.out
    replace hs1 := Lib.hid (hs1.out.later hb)
    replace hs2 := Lib.hid hs2
    replace hB := hB.trans (hb.mono hB.size)
    clear hb k2 x0 x1 b0 hr hr'
    go_wp2_with fail
    refine (k3.out _).mono ?_
    rintro e W4 ⟨b, j3, rfl, hr, hb⟩
    replace hr := Lib.hid hr
    replace hs1 := Lib.hid (hs1.out.later hb)
    replace hs2 := Lib.hid (hs2.out.later hb)
    replace hB := hB.trans (hb.mono hB.size)
    clear hb k3
    go_wp2_with fail
    refine (k4.out _).mono ?_
    rintro e W5 ⟨b', j4, rfl, hr', hb⟩
    obtain ⟨rfl, rfl⟩ := hr.out.uniq hr'
    replace hs1 := Lib.hid (hs1.out.later hb)
    replace hs2 := Lib.hid (hs2.out.later hb)
    replace hB := hB.trans (hb.mono hB.size)
    clear hb k4 hr hr'
    go_wp2_with fail
    refine (k5.out _).mono ?_
    rintro e W6 ⟨n, j5, rfl, hr, hb⟩
    replace hr := Lib.hid hr
    replace hs1 := Lib.hid (hs1.out.later hb)
    replace hs2 := Lib.hid (hs2.out.later hb)
    replace hB := hB.trans (hb.mono hB.size)
    clear hb k5
    go_wp2_with fail
    refine (k6.out _).mono ?_
    rintro e W7 ⟨n', j6, rfl, hr', hb⟩
    obtain ⟨rfl, rfl⟩ := hr.out.uniq hr'
    replace hs1 := Lib.hid (hs1.out.later hb)
    replace hs2 := Lib.hid (hs2.out.later hb)
    replace hB := hB.trans (hb.mono hB.size)
    clear hb k6 hr hr'
    go_wp2_with fail
    refine (k8.out _ _ _ _ _ _ hs1 hs2 hlong).mono ?_
    rintro e W8 ⟨rfl, hb⟩
    replace hB := hB.trans (hb.mono hB.size)
    clear hb k8 hs1 hs2
    go_wp2_with fail
    refine (k7.out _).mono ?_
    rintro e W9 ⟨rfl, hb⟩
    go_wp2_with fail
    go_ret
    exact ⟨rfl, hB.trans (hb.mono hB.size)⟩
end Go.Proofs.Ytjcadgklamhohaa
