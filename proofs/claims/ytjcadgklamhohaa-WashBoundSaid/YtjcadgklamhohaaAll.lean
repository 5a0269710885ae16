/- all: whether each span of a list is within limits. -/
import Derived.Test.YtjcadgklamhohaaSpans
namespace Go.Proofs.Ytjcadgklamhohaa
open Go.RowKit Go.Sort
attribute [local go_sem] Oper.calm Oper.calmAt Oper.calmUpon

/-- spans that lie one behind the other -/
def SpansAt (w : World) (A : Option Addr) (l : List (Int × Int)) : Prop :=
  0 < l.length → ∃ b off, A = some ⟨b, off, none⟩ ∧ b < w.heap.size ∧ ∀ i, i < l.length → w.cell? ⟨b, off + i * 2, none⟩ = some (.int .i64 (l[i]?.getD (0, 0)).1) ∧ w.cell? ⟨b, off + i * 2 + 1, none⟩ = some (.int .i64 (l[i]?.getD (0, 0)).2)
theorem SpansAt.below {B : Nat} {w w' : World} {A : Option Addr} {l : List (Int × Int)} (h : SpansAt w A l) (hb : Below B w w') (hB : w.heap.size ≤ B) : SpansAt w' A l := fun h0 => by
  obtain ⟨b, off, h1, h2, h3⟩ := h h0
  refine ⟨b, off, h1, Nat.lt_of_lt_of_le h2 hb.size, fun i hi => ?_⟩
  obtain ⟨k1, k2⟩ := h3 i hi
  exact ⟨(hb.cell (p := ⟨b, _, none⟩) (show b < B by omega)).trans k1, (hb.cell (p := ⟨b, _, none⟩) (show b < B by omega)).trans k2⟩
theorem SpansAt.later {w w' : World} {A : Option Addr} {l : List (Int × Int)} (h : SpansAt w A l) (hb : Below w.heap.size w w') : SpansAt w' A l := h.below hb (Nat.le_refl _)
theorem SpansAt.nil (w : World) (A : Option Addr) : SpansAt w A [] := fun h => absurd h (Nat.lt_irrefl 0)
/-- numbers that lie one behind the other -/
def IntsAt (w : World) (A : Option Addr) (l : List Int) : Prop :=
  0 < l.length → ∃ b off, A = some ⟨b, off, none⟩ ∧ b < w.heap.size ∧ ∀ i, i < l.length → w.cell? ⟨b, off + i, none⟩ = some (.int .i64 (l[i]?.getD 0))
theorem IntsAt.later {w w' : World} {A : Option Addr} {l : List Int} (h : IntsAt w A l) (hb : Below w.heap.size w w') : IntsAt w' A l := fun h0 => by
  obtain ⟨b, off, h1, h2, h3⟩ := h h0
  exact ⟨b, off, h1, Nat.lt_of_lt_of_le h2 hb.size, fun i hi => (hb.cell (p := ⟨b, _, none⟩) h2).trans (h3 i hi)⟩
/-- all spans are within limits -/
def AllIn (lo hi : Int) (l : List (Int × Int)) : Prop := ∀ i, i < l.length → SpIn lo hi (l[i]?.getD (0, 0)).1 (l[i]?.getD (0, 0)).2

set_option maxHeartbeats 4000000 in
set_option maxRecDepth 100000 in
theorem all_any (lo hi : Int) (A : Option Addr) (c : Nat) (l : List (Int × Int)) (w : World) (hp : Hid (SpansAt w A l)) (hlen : l.length ≤ 140737488355328) :
    Calls Try.prog 68 #[.slice A l.length c, .func (.func 62) #[.agg #[.int .i64 lo, .int .i64 hi]] #[]] w (SomeBool (AllIn lo hi l) w) := by
  have hyes := Lib.hid fun (h : AllIn lo hi l) W (hB : Below w.heap.size w W) => SomeBool.yes h hB
  have hno := Lib.hid fun (i : Nat) (hi' : i < l.length) (h : ¬ SpIn lo hi (l[i]?.getD (0, 0)).1 (l[i]?.getD (0, 0)).2) W (hB : Below w.heap.size w W) => SomeBool.no (p := AllIn lo hi l) (fun k => h (k i hi')) hB
  have hcov := Lib.hid fun a b W => covers_any lo hi a b W
  go_enter Try.func68, Try.ntmps68
  go_wp2_with fail
  go_loopw [9] (fun i wr => ∃ k : Nat, k ≤ l.length ∧ i = .int .i64 k ∧ Below w.heap.size w wr ∧ Hid (SpansAt wr A l) ∧ Hid (∀ j, j < k → SpIn lo hi (l[j]?.getD (0, 0)).1 (l[j]?.getD (0, 0)).2)) (fun i _ => l.length - (intOf i).toNat)
  case atStart => exact ⟨0, Nat.zero_le _, rfl, Below.refl _ _, hp, Lib.hid fun j h => by omega⟩
  case round =>
    clear hp
    obtain ⟨k, hk, rfl, hB, hs, hd⟩ := hrel
    by_cases hlt : k < l.length
    · obtain ⟨b, off, rfl, hb, hc⟩ := hs.out (by omega)
      obtain ⟨x0, x1⟩ := hc k hlt
      clear hc
      have hlt' : (k : Int) < l.length := by omega
      replace hno := Lib.hid (hno.out k hlt)
      have hd2 := Lib.hid (show SpIn lo hi (l[k]?.getD (0, 0)).1 (l[k]?.getD (0, 0)).2 → ∀ j, j < k + 1 → SpIn lo hi (l[j]?.getD (0, 0)).1 (l[j]?.getD (0, 0)).2 from fun h j hj => by
        by_cases e : j = k
        · subst e; exact h
        · exact hd.out j (by omega))
      clear hd
      generalize (l[k]?.getD (0, 0)).1 = a at *
      generalize (l[k]?.getD (0, 0)).2 = d at *
      go_wp2_with fail
      refine calls_world (fun W => Below w.heap.size w W ∧ Hid (SpansAt W (some ⟨b, off, none⟩) l)) ?_ ?_
      · exact ⟨hB.alloc hB.size _, Lib.hid (hs.out.later ((Below.refl _ _).alloc (Nat.le_refl _) _))⟩
      clear hB hs x0 x1
      rintro W1 ⟨hB, hs⟩
      refine (hcov.out _ _ _).mono ?_
      rintro e W2 ⟨r, rfl, hr, hb2⟩
      replace hB := hB.trans (hb2.mono hB.size)
      replace hs := Lib.hid (hs.out.later hb2)
      clear hb2 hcov
      cases r with
      | false =>
        replace hno := Lib.hid (hno.out (fun h => Bool.noConfusion (hr.2 h)))
        clear hr
        go_wp2_with fail
        go_ret
        exact hno.out _ hB
      | true =>
        replace hd2 := Lib.hid (hd2.out (hr.1 rfl))
        clear hr
        go_wp2_with fail
        go_roundw
        case rel => exact ⟨k + 1, by omega, by go_num, hB, hs, hd2⟩
        case measure => simp [intOf]; omega
    · have hk' : k = l.length := by omega
      subst hk'
      replace hyes := Lib.hid (hyes.out hd.out)
      clear hd hno
      go_wp2_with fail
      go_ret
      exact hyes.out _ hB
end Go.Proofs.Ytjcadgklamhohaa
