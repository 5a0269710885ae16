/- What a valid table gives: its axes, its rows, and where they lie. -/
import Derived.Test.YtcghafdemklnnaaShowBest
import Derived.Test.YtcghafdemklnnaaWide
namespace Go.Proofs.Ytcghafdemklnnaa
open Go.RowKit

/-- walk on from a world of which only this is known -/
theorem calls_world {P : Program} {f : FuncId} {args : Array Value} {w : World} {Post : Ending → World → Prop} (R : World → Prop) (hR : R w) (h : ∀ W, R W → Calls P f args W Post) : Calls P f args w Post := h w hR
theorem wp_world {P : Program} {c : Code} {Q : Exit → Act → World → Prop} {a : Act} {w : World} (R : World → Prop) (hR : R w) (h : ∀ W, R W → c.wp P Q a W) : c.wp P Q a w := h w hR

theorem rising_of {xs : List Int} {lo hi : Int} (h : Rises xs lo hi) : Rising xs := by
  intro a b hab hb
  induction b with
  | zero => omega
  | succ b ih =>
    have h1 := (h (b + 1) hb).2.2 (by omega)
    simp only [Nat.add_sub_cancel] at h1
    rcases Nat.lt_or_ge a b with h2 | h2
    · exact Int.lt_trans (ih h2 (by omega)) h1
    · have : a = b := by omega
      subst this; exact h1
theorem axis_of {xs : List Int} {lo hi : Int} (h2 : 2 ≤ xs.length) (h3 : xs.length ≤ 32) (h : Rises xs lo hi) : AxisOk xs lo hi := ⟨h2, h3, rising_of h, fun j hj => ⟨(h j hj).1, (h j hj).2.1⟩⟩

theorem cell_none {rows : List (List Int)} {i j : Nat} (h : ¬ (i < rows.length ∧ j < (rows[i]?.getD []).length)) : cellAt rows i j = 0 := by
  unfold cellAt
  rcases Nat.lt_or_ge i rows.length with h1 | h1
  · have h2 : (rows[i]?.getD []).length ≤ j := by omega
    simp [List.getElem?_eq_none h2]
  · simp [List.getElem?_eq_none h1]

theorem showOk_of {T S : List Int} {Sh : List (List Int)} (h1 : Sh.length = T.length) (h : ShownOk Sh S.length) : ShowOk T S Sh where
  len := h1
  row := fun i hi => (h i hi).1
  bd := fun i j => by
    by_cases hc : i < Sh.length ∧ j < (Sh[i]?.getD []).length
    · have := (h i hc.1).2 j hc.2
      exact ⟨by have := this.1; unfold cellAt; omega, this.2.1⟩
    · rw [cell_none hc]; omega
  rise := fun i hi => rising_of (h i hi).2
theorem gridOk_show {T S : List Int} {Sh : List (List Int)} (h : ShowOk T S Sh) : GridOk T S Sh := ⟨h.len, h.row, fun i j => by have := h.bd i j; omega⟩
theorem gridOk_room {T S : List Int} {Rm : List (List Int)} (h1 : Rm.length = T.length) (h : RoomOk Rm S.length) : GridOk T S Rm where
  len := h1
  row := fun i hi => (h i hi).1
  bd := fun i j => by
    by_cases hc : i < Rm.length ∧ j < (Rm[i]?.getD []).length
    · have := (h i hc.1).2 j hc.2
      unfold cellAt
      omega
    · rw [cell_none hc]; omega

theorem row_of {w : World} {A : Option Addr} {xs : List Int} (h : IntsAt w A xs.length xs) (h0 : 0 < xs.length) : ∃ b off, A = some ⟨b, off, none⟩ ∧ Row w b off xs := h.2 h0
theorem grid_of {w : World} {A : Option Addr} {rows : List (List Int)} (h : RowsAt w A rows.length rows) (h0 : 0 < rows.length) (hr : ∀ i, i < rows.length → 0 < (rows[i]?.getD []).length) : ∃ b off, A = some ⟨b, off, none⟩ ∧ Grid w b off rows := by
  obtain ⟨b, off, hA, hb⟩ := h.2.1 h0
  refine ⟨b, off, hA, hb, fun i hi => ?_⟩
  obtain ⟨A', c', h1, h2⟩ := h.2.2 b off hA i hi
  obtain ⟨b', off', rfl, h3⟩ := h2.2 (hr i hi)
  exact ⟨b', off', c', h1, h3⟩

/-- all that the walks need of a valid table -/
structure Tab (w : World) (tb toff sb soff rb roff mb moff : Nat) (T S : List Int) (Sh Rm : List (List Int)) : Prop where
  oT : AxisOk T (-500) 1000
  oS : AxisOk S 0 10000
  sh : ShowOk T S Sh
  rm : GridOk T S Rm
  ro : RoomOk Rm S.length
  rT : Row w tb toff T
  rS : Row w sb soff S
  rSh : Grid w rb roff Sh
  rRm : Grid w mb moff Rm
theorem Tab.below {w w' : World} {tb toff sb soff rb roff mb moff : Nat} {T S : List Int} {Sh Rm : List (List Int)} (h : Tab w tb toff sb soff rb roff mb moff T S Sh Rm) (hb : Below w.heap.size w w') : Tab w' tb toff sb soff rb roff mb moff T S Sh Rm :=
  ⟨h.oT, h.oS, h.sh, h.rm, h.ro, h.rT.below hb, h.rS.below hb, h.rSh.below hb, h.rRm.below hb⟩
theorem tab_of {w : World} {A0 A1 A2 A3 : Option Addr} {T S : List Int} {Sh Rm : List (List Int)} (h : TableAt w A0 A1 A2 A3 T S Sh Rm) (hok : TableOk T S Sh Rm) :
    ∃ tb toff sb soff rb roff mb moff, A0 = some ⟨tb, toff, none⟩ ∧ A1 = some ⟨sb, soff, none⟩ ∧ A2 = some ⟨rb, roff, none⟩ ∧ A3 = some ⟨mb, moff, none⟩ ∧ Tab w tb toff sb soff rb roff mb moff T S Sh Rm := by
  obtain ⟨⟨t1, t2, t3⟩, ⟨s1, s2, s3⟩, ⟨h1, h2⟩, ⟨m1, m2⟩⟩ := hok
  obtain ⟨tb, toff, e0, r0⟩ := row_of h.iT (by omega)
  obtain ⟨sb, soff, e1, r1⟩ := row_of h.iS (by omega)
  obtain ⟨rb, roff, e2, r2⟩ := grid_of h.iSh (by omega) (fun i hi => by rw [(h2 i hi).1]; omega)
  obtain ⟨mb, moff, e3, r3⟩ := grid_of h.iRm (by omega) (fun i hi => by rw [(m2 i hi).1]; omega)
  exact ⟨tb, toff, sb, soff, rb, roff, mb, moff, e0, e1, e2, e3, axis_of t1 t2 t3, axis_of s1 s2 s3, showOk_of h1 h2, gridOk_room m1 m2, m2, r0, r1, r2, r3⟩
end Go.Proofs.Ytcghafdemklnnaa
