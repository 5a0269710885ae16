/- What makes the rooms of a table valid, and a table as a whole. -/
import Derived.Test.YtcghafdemklnnaaValid
import Derived.Deep.LoopGhost
import Derived.WalkMore
namespace Go.Proofs.Ytcghafdemklnnaa
open Go.RowKit Go.Sort Go.Shelf

def InRoom (row : List Int) (k : Nat) : Prop := ∀ j, j < k → 900000 ≤ row[j]?.getD 0 ∧ row[j]?.getD 0 ≤ 1100000
def RoomOk (rows : List (List Int)) (m : Nat) : Prop := ∀ i, i < rows.length → (rows[i]?.getD []).length = m ∧ InRoom (rows[i]?.getD []) (rows[i]?.getD []).length

set_option maxRecDepth 100000 in
set_option maxHeartbeats 4000000 in
theorem validRoom_any (A : Option Addr) (n c : Nat) (rows : List (List Int)) (count m : Nat) (w : World) (hr : RowsAt w A n rows) (hn : n ≤ 140737488355328) (_ : count ≤ 140737488355328) (_ : m ≤ 140737488355328) (hl : Hid (∀ i : Nat, (rows[i]?.getD []).length ≤ 140737488355328)) :
    Calls Try.prog 76 #[.slice A n c, .int .i64 count, .int .i64 m] w (SomeBool (n = count ∧ RoomOk rows m) w) := by
  have hb0 : ∃ v0 : Bool, ((n : Int) == (count : Int)) = v0 ∧ Hid (v0 = true ↔ n = count) := ⟨_, rfl, Lib.hid (by rw [beq_iff_eq]; omega)⟩
  obtain ⟨v0, e0, hv0⟩ := hb0
  have hrl := Lib.hid hr.1
  go_enter Try.func76, Try.ntmps76
  go_wp2
  go_step3
  go_wp2
  go_step3
  go_wp2
  go_loopg [7, 18] n (fun kx s7 s18 wr => ∃ (v : Bool) (k : Nat), s7 = .bool v ∧ s18 = .int .i64 k ∧ k ≤ n ∧ n - k ≤ kx ∧ w = wr ∧ Hid ((v = true ↔ n = count ∧ ∀ j, j < k → (rows[j]?.getD []).length = m) ∧ ∀ j, j < k → InRoom (rows[j]?.getD []) (rows[j]?.getD []).length))
  case atStart => exact ⟨v0, 0, rfl, rfl, Nat.zero_le _, by omega, rfl, Lib.hid ⟨hv0.out.trans ⟨fun h => ⟨h, fun j hj => absurd hj (Nat.not_lt_zero _)⟩, fun h => h.1⟩, fun j hj => absurd hj (Nat.not_lt_zero _)⟩⟩
  case round =>
    obtain ⟨v, k, rfl, rfl, hk, hg, rfl, hgood⟩ := hrel
    by_cases hlt : k < n
    · obtain ⟨b, off, hA, hbl⟩ := hr.2.1 (by omega)
      obtain ⟨A', c', hcell, hints⟩ := hr.2.2 b off hA k hlt
      have hlk := hl.out k
      have hall : Hid (RoomOk rows m → InRoom (rows[k]?.getD []) (rows[k]?.getD []).length) := Lib.hid fun h => (h k (by have := hrl.out; omega)).2
      have hroom : Hid (InRoom (rows[k]?.getD []) (rows[k]?.getD []).length → ∀ j, j < k + 1 → InRoom (rows[j]?.getD []) (rows[j]?.getD []).length) := Lib.hid fun h1 j hj => by
        rcases Nat.lt_or_ge j k with h | h
        · exact hgood.out.2 j h
        · have : j = k := by omega
          subst this; exact h1
      have hlens : Hid (∀ u : Bool, (u = true ↔ (v = true ∧ (rows[k]?.getD []).length = m)) → (u = true ↔ n = count ∧ ∀ j, j < k + 1 → (rows[j]?.getD []).length = m)) := Lib.hid fun u hu => hu.trans ⟨fun ⟨h1, h2⟩ => ⟨(hgood.out.1.1 h1).1, fun j hj => by
        rcases Nat.lt_or_ge j k with h | h
        · exact (hgood.out.1.1 h1).2 j h
        · have : j = k := by omega
          subst this; exact h2⟩, fun ⟨h1, h2⟩ => ⟨hgood.out.1.2 ⟨h1, fun j hj => h2 j (by omega)⟩, h2 k (by omega)⟩⟩
      clear hr
      generalize hrow : rows[k]?.getD [] = row at hcell hints hlk hall hroom hlens
      clear hrow
      subst hA
      cases v
      · have hv1 := Lib.hid (hlens.out false (by simp))
        clear hlens hgood
        go_wp2
        go_loopg [7, 31] row.length (fun kx2 s7 s31 wr => s7 = .bool false ∧ (∃ kk : Nat, s31 = .int .i64 kk ∧ kk ≤ row.length ∧ row.length - kk ≤ kx2 ∧ Hid (InRoom row kk)) ∧ w = wr)
        case atStart => exact ⟨rfl, ⟨0, rfl, Nat.zero_le _, by omega, Lib.hid fun j hj => absurd hj (Nat.not_lt_zero _)⟩, rfl⟩
        case round =>
          obtain ⟨rfl, ⟨kk, rfl, hkk, hgg, hin⟩, rfl⟩ := hrel
          by_cases hlt2 : kk < row.length
          · obtain ⟨b2, off2, hA2, hrow2⟩ := hints.2 (by omega)
            have hx2 := hrow2.2 kk hlt2
            clear hrow2
            have hstep : Hid (900000 ≤ row[kk]?.getD 0 ∧ row[kk]?.getD 0 ≤ 1100000 → InRoom row (kk + 1)) := Lib.hid fun h1 j hj => by
              rcases Nat.lt_or_ge j kk with h | h
              · exact hin.out j h
              · have : j = kk := by omega
                subst this; exact h1
            have hbad : Hid (¬ (900000 ≤ row[kk]?.getD 0 ∧ row[kk]?.getD 0 ≤ 1100000) → ¬ InRoom row row.length) := Lib.hid fun h1 h2 => h1 (h2 kk hlt2)
            generalize row[kk]?.getD 0 = z at hx2 hstep hbad
            subst hA2
            by_cases d1 : z < 900000
            · have hno := Lib.hid (hbad.out (by omega))
              go_wp2
              try rw [Exit.noGoto_ret]
              go_ret
              exact SomeBool.no (fun h => hno.out (hall.out h.2)) (Below.refl _ _)
            · have d1' : decide (z < 900000) = false := by simpa using d1
              by_cases d2 : 1100000 < z
              · have hno := Lib.hid (hbad.out (by omega))
                go_wp2
                try rw [Exit.noGoto_ret]
                go_ret
                exact SomeBool.no (fun h => hno.out (hall.out h.2)) (Below.refl _ _)
              · have d2' : decide (1100000 < z) = false := by simpa using d2
                have hyes := Lib.hid (hstep.out (by omega))
                go_wp2
                go_roundg (row.length - (kk + 1))
                case measure => omega
                case rel => exact ⟨rfl, ⟨kk + 1, by go_num, by omega, by omega, hyes⟩, rfl⟩
          · obtain rfl : kk = row.length := by omega
            go_wp2
            go_roundg (n - (k + 1))
            case measure => omega
            case rel => exact ⟨false, k + 1, rfl, by go_num, by omega, by omega, rfl, Lib.hid ⟨(by simpa using hv1.out), hroom.out hin.out⟩⟩

      · by_cases c1 : row.length = m
        · have c1' : ((row.length : Int) == (m : Int)) = true := by simp; omega
          have hv1 := Lib.hid (hlens.out true (by simp [c1]))
          clear hlens hgood c1
          go_wp2
          go_loopg [7, 31] row.length (fun kx2 s7 s31 wr => s7 = .bool true ∧ (∃ kk : Nat, s31 = .int .i64 kk ∧ kk ≤ row.length ∧ row.length - kk ≤ kx2 ∧ Hid (InRoom row kk)) ∧ w = wr)
          case atStart => exact ⟨rfl, ⟨0, rfl, Nat.zero_le _, by omega, Lib.hid fun j hj => absurd hj (Nat.not_lt_zero _)⟩, rfl⟩
          case round =>
            obtain ⟨rfl, ⟨kk, rfl, hkk, hgg, hin⟩, rfl⟩ := hrel
            by_cases hlt2 : kk < row.length
            · obtain ⟨b2, off2, hA2, hrow2⟩ := hints.2 (by omega)
              have hx2 := hrow2.2 kk hlt2
              clear hrow2
              have hstep : Hid (900000 ≤ row[kk]?.getD 0 ∧ row[kk]?.getD 0 ≤ 1100000 → InRoom row (kk + 1)) := Lib.hid fun h1 j hj => by
                rcases Nat.lt_or_ge j kk with h | h
                · exact hin.out j h
                · have : j = kk := by omega
                  subst this; exact h1
              have hbad : Hid (¬ (900000 ≤ row[kk]?.getD 0 ∧ row[kk]?.getD 0 ≤ 1100000) → ¬ InRoom row row.length) := Lib.hid fun h1 h2 => h1 (h2 kk hlt2)
              generalize row[kk]?.getD 0 = z at hx2 hstep hbad
              subst hA2
              by_cases d1 : z < 900000
              · have hno := Lib.hid (hbad.out (by omega))
                go_wp2
                try rw [Exit.noGoto_ret]
                go_ret
                exact SomeBool.no (fun h => hno.out (hall.out h.2)) (Below.refl _ _)
              · have d1' : decide (z < 900000) = false := by simpa using d1
                by_cases d2 : 1100000 < z
                · have hno := Lib.hid (hbad.out (by omega))
                  go_wp2
                  try rw [Exit.noGoto_ret]
                  go_ret
                  exact SomeBool.no (fun h => hno.out (hall.out h.2)) (Below.refl _ _)
                · have d2' : decide (1100000 < z) = false := by simpa using d2
                  have hyes := Lib.hid (hstep.out (by omega))
                  go_wp2
                  go_roundg (row.length - (kk + 1))
                  case measure => omega
                  case rel => exact ⟨rfl, ⟨kk + 1, by go_num, by omega, by omega, hyes⟩, rfl⟩
            · obtain rfl : kk = row.length := by omega
              go_wp2
              go_roundg (n - (k + 1))
              case measure => omega
              case rel => exact ⟨true, k + 1, rfl, by go_num, by omega, by omega, rfl, Lib.hid ⟨(by simpa using hv1.out), hroom.out hin.out⟩⟩

        · have c1' : ((row.length : Int) == (m : Int)) = false := by simp; omega
          have hv1 := Lib.hid (hlens.out false (by simp [c1]))
          clear hlens hgood c1
          go_wp2
          go_loopg [7, 31] row.length (fun kx2 s7 s31 wr => s7 = .bool false ∧ (∃ kk : Nat, s31 = .int .i64 kk ∧ kk ≤ row.length ∧ row.length - kk ≤ kx2 ∧ Hid (InRoom row kk)) ∧ w = wr)
          case atStart => exact ⟨rfl, ⟨0, rfl, Nat.zero_le _, by omega, Lib.hid fun j hj => absurd hj (Nat.not_lt_zero _)⟩, rfl⟩
          case round =>
            obtain ⟨rfl, ⟨kk, rfl, hkk, hgg, hin⟩, rfl⟩ := hrel
            by_cases hlt2 : kk < row.length
            · obtain ⟨b2, off2, hA2, hrow2⟩ := hints.2 (by omega)
              have hx2 := hrow2.2 kk hlt2
              clear hrow2
              have hstep : Hid (900000 ≤ row[kk]?.getD 0 ∧ row[kk]?.getD 0 ≤ 1100000 → InRoom row (kk + 1)) := Lib.hid fun h1 j hj => by
                rcases Nat.lt_or_ge j kk with h | h
                · exact hin.out j h
                · have : j = kk := by omega
                  subst this; exact h1
              have hbad : Hid (¬ (900000 ≤ row[kk]?.getD 0 ∧ row[kk]?.getD 0 ≤ 1100000) → ¬ InRoom row row.length) := Lib.hid fun h1 h2 => h1 (h2 kk hlt2)
              generalize row[kk]?.getD 0 = z at hx2 hstep hbad
              subst hA2
              by_cases d1 : z < 900000
              · have hno := Lib.hid (hbad.out (by omega))
                go_wp2
                try rw [Exit.noGoto_ret]
                go_ret
                exact SomeBool.no (fun h => hno.out (hall.out h.2)) (Below.refl _ _)
              · have d1' : decide (z < 900000) = false := by simpa using d1
                by_cases d2 : 1100000 < z
                · have hno := Lib.hid (hbad.out (by omega))
                  go_wp2
                  try rw [Exit.noGoto_ret]
                  go_ret
                  exact SomeBool.no (fun h => hno.out (hall.out h.2)) (Below.refl _ _)
                · have d2' : decide (1100000 < z) = false := by simpa using d2
                  have hyes := Lib.hid (hstep.out (by omega))
                  go_wp2
                  go_roundg (row.length - (kk + 1))
                  case measure => omega
                  case rel => exact ⟨rfl, ⟨kk + 1, by go_num, by omega, by omega, hyes⟩, rfl⟩
            · obtain rfl : kk = row.length := by omega
              go_wp2
              go_roundg (n - (k + 1))
              case measure => omega
              case rel => exact ⟨false, k + 1, rfl, by go_num, by omega, by omega, rfl, Lib.hid ⟨(by simpa using hv1.out), hroom.out hin.out⟩⟩

    · have hk' : k = n := by omega
      subst hk'
      go_wp2
      try rw [Exit.noGoto_ret]
      go_ret
      have hfin : v = true ↔ k = count ∧ RoomOk rows m := hgood.out.1.trans ⟨fun ⟨h1, h2⟩ => ⟨h1, fun i hi => ⟨h2 i (by have := hrl.out; omega), hgood.out.2 i (by have := hrl.out; omega)⟩⟩, fun ⟨h1, h2⟩ => ⟨h1, fun j hj => (h2 j (by have := hrl.out; omega)).1⟩⟩
      exact ⟨v, rfl, hfin, Below.refl _ _⟩

def TableOk (T S : List Int) (Sh Rm : List (List Int)) : Prop :=
  (2 ≤ T.length ∧ T.length ≤ 32 ∧ Rises T (-500) 1000) ∧ (2 ≤ S.length ∧ S.length ≤ 32 ∧ Rises S 0 10000) ∧ (Sh.length = T.length ∧ ShownOk Sh S.length) ∧ (Rm.length = T.length ∧ RoomOk Rm S.length)
/-- a table's four slices in memory -/
structure TableAt (w : World) (A0 A1 A2 A3 : Option Addr) (T S : List Int) (Sh Rm : List (List Int)) : Prop where
  iT : IntsAt w A0 T.length T
  iS : IntsAt w A1 S.length S
  iSh : RowsAt w A2 Sh.length Sh
  iRm : RowsAt w A3 Rm.length Rm
  lT : T.length ≤ 140737488355328
  lS : S.length ≤ 140737488355328
  lSh : Sh.length ≤ 140737488355328
  lRm : Rm.length ≤ 140737488355328
  rSh : ∀ i : Nat, (Sh[i]?.getD []).length ≤ 140737488355328
  rRm : ∀ i : Nat, (Rm[i]?.getD []).length ≤ 140737488355328
theorem TableAt.below {w w' : World} {A0 A1 A2 A3 : Option Addr} {T S : List Int} {Sh Rm : List (List Int)} (h : TableAt w A0 A1 A2 A3 T S Sh Rm) (hb : Below w.heap.size w w') : TableAt w' A0 A1 A2 A3 T S Sh Rm :=
  ⟨h.iT.below hb, h.iS.below hb, h.iSh.below hb, h.iRm.below hb, h.lT, h.lS, h.lSh, h.lRm, h.rSh, h.rRm⟩
theorem Hid.mono {p q : Prop} (h : Hid p) (f : p → q) : Hid q := f h

set_option maxRecDepth 100000 in
set_option maxHeartbeats 4000000 in
theorem validTable_any (A0 A1 A2 A3 : Option Addr) (c0 c1 c2 c3 : Nat) (T S : List Int) (Sh Rm : List (List Int)) (w : World) (ht : Hid (TableAt w A0 A1 A2 A3 T S Sh Rm)) :
    Calls Try.prog 48 #[.agg #[.slice A0 T.length c0, .slice A1 S.length c1, .slice A2 Sh.length c2, .slice A3 Rm.length c3]] w (SomeBool (TableOk T S Sh Rm) w) := by
  have h1 := fun W (hb : Below w.heap.size w W) => validAxis_any A0 T.length c0 T (-500) 1000 W (ht.out.below hb).iT ht.out.lT
  have h2 := fun W (hb : Below w.heap.size w W) => validAxis_any A1 S.length c1 S 0 10000 W (ht.out.below hb).iS ht.out.lS
  have h3 := fun W (hb : Below w.heap.size w W) => validShown_any A2 Sh.length c2 Sh T.length S.length W (ht.out.below hb).iSh ht.out.lSh ht.out.lT ht.out.lS (Lib.hid ht.out.rSh)
  have h4 := fun W (hb : Below w.heap.size w W) => validRoom_any A3 Rm.length c3 Rm T.length S.length W (ht.out.below hb).iRm ht.out.lRm ht.out.lT ht.out.lS (Lib.hid ht.out.rRm)
  replace h1 := Lib.hid h1
  replace h2 := Lib.hid h2
  replace h3 := Lib.hid h3
  replace h4 := Lib.hid h4
  have lT := ht.out.lT
  have lS := ht.out.lS
  go_enter Try.func48, Try.ntmps48
  go_wp2_with fail
  have hB : Below w.heap.size w (w.alloc (Obj.cells #[Value.slice A0 T.length c0, Value.slice A1 S.length c1, Value.slice A2 Sh.length c2, Value.slice A3 Rm.length c3] 25)) := (Below.refl _ _).alloc (Nat.le_refl _) _
  have b0 : Blk (w.alloc (Obj.cells #[Value.slice A0 T.length c0, Value.slice A1 S.length c1, Value.slice A2 Sh.length c2, Value.slice A3 Rm.length c3] 25)) w.heap.size 25 #[Value.slice A0 T.length c0, Value.slice A1 S.length c1, Value.slice A2 Sh.length c2, Value.slice A3 Rm.length c3] := Blk.new _ _ _
  generalize (w.alloc (Obj.cells #[Value.slice A0 T.length c0, Value.slice A1 S.length c1, Value.slice A2 Sh.length c2, Value.slice A3 Rm.length c3] 25)) = W0 at hB b0 ⊢
  refine (h1.out W0 hB).mono ?_
  rintro e W1 ⟨r1, rfl, hr1, hb1⟩
  replace hr1 := Lib.hid hr1
  have hB1 := hB.trans (hb1.mono hB.size)
  have b1 := b0.below hb1 b0.lt
  obtain ⟨x0, x1, x2, x3, _, _, _, _⟩ := b1.facts4
  cases r1
  · go_wp2
    go_ret
    exact SomeBool.no (fun h => by have := hr1.out.2 h.1; simp at this) hB1
  · go_wp2_with fail
    refine (h2.out W1 hB1).mono ?_
    rintro e W2 ⟨r2, rfl, hr2, hb2⟩
    replace hr2 := Lib.hid hr2
    have hB2 := hB1.trans (hb2.mono hB1.size)
    have b2 := b1.below hb2 b1.lt
    clear x0 x1 x2 x3
    obtain ⟨x0, x1, x2, x3, _, _, _, _⟩ := b2.facts4
    cases r2
    · go_wp2
      go_ret
      exact SomeBool.no (fun h => by have := hr2.out.2 h.2.1; simp at this) hB2
    · go_wp2_with fail
      refine (h3.out W2 hB2).mono ?_
      rintro e W3 ⟨r3, rfl, hr3, hb3⟩
      replace hr3 := Lib.hid hr3
      have hB3 := hB2.trans (hb3.mono hB2.size)
      have b3 := b2.below hb3 b2.lt
      clear x0 x1 x2 x3
      obtain ⟨x0, x1, x2, x3, _, _, _, _⟩ := b3.facts4
      cases r3
      · go_wp2
        go_ret
        exact SomeBool.no (fun h => by have := hr3.out.2 h.2.2.1; simp at this) hB3
      · go_wp2_with fail
        refine (h4.out W3 hB3).mono ?_
        rintro e W4 ⟨r4, rfl, hr4, hb4⟩
        replace hr4 := Lib.hid hr4
        have hB4 := hB3.trans (hb4.mono hB3.size)
        cases r4
        · go_wp2
          go_ret
          exact SomeBool.no (fun h => by have := hr4.out.2 h.2.2.2; simp at this) hB4
        · go_wp2
          go_ret
          exact SomeBool.yes ⟨hr1.out.1 (by simp), hr2.out.1 (by simp), hr3.out.1 (by simp), hr4.out.1 (by simp)⟩ hB4
end Go.Proofs.Ytcghafdemklnnaa
