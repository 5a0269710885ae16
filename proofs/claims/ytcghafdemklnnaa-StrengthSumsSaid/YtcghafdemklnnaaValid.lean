/- What makes a table valid, as package strength tests it. -/
import Derived.Test.YtcghafdemklnnaaValue
namespace Go.Proofs.Ytcghafdemklnnaa
open Go.RowKit Go.Sort Go.Shelf

/-- the slice (nil let in) holds these ints -/
def IntsAt (w : World) (A : Option Addr) (n : Nat) (xs : List Int) : Prop := xs.length = n ∧ (0 < n → ∃ b off, A = some ⟨b, off, none⟩ ∧ Row w b off xs)
theorem IntsAt.below {w w' : World} {A : Option Addr} {n : Nat} {xs : List Int} (h : IntsAt w A n xs) (hb : Below w.heap.size w w') : IntsAt w' A n xs :=
  ⟨h.1, fun hn => by obtain ⟨b, off, h1, h2⟩ := h.2 hn; exact ⟨b, off, h1, h2.below hb⟩⟩
/-- the slice (nil let in) holds these rows -/
def RowsAt (w : World) (A : Option Addr) (n : Nat) (rows : List (List Int)) : Prop :=
  rows.length = n ∧ (0 < n → ∃ b off, A = some ⟨b, off, none⟩ ∧ b < w.heap.size) ∧ ∀ b off, A = some ⟨b, off, none⟩ → ∀ i, i < n → ∃ A' c', w.cell? ⟨b, off + i, none⟩ = some (.slice A' (rows[i]?.getD []).length c') ∧ IntsAt w A' (rows[i]?.getD []).length (rows[i]?.getD [])
theorem RowsAt.below {w w' : World} {A : Option Addr} {n : Nat} {rows : List (List Int)} (h : RowsAt w A n rows) (hb : Below w.heap.size w w') : RowsAt w' A n rows :=
  ⟨h.1, fun hn => by obtain ⟨b, off, h1, h2⟩ := h.2.1 hn; exact ⟨b, off, h1, Nat.lt_of_lt_of_le h2 hb.size⟩, fun b off hA i hi => by
    obtain ⟨A', c', h1, h2⟩ := h.2.2 b off hA i hi
    obtain ⟨b', off', h3, h4⟩ := h.2.1 (by omega)
    rw [hA] at h3
    cases h3
    exact ⟨A', c', (hb.cell (p := ⟨b, off + i, none⟩) h4).trans h1, h2.below hb⟩⟩

/-- it returns whether p, and nothing old has turned -/
def SomeBool (p : Prop) (w : World) (e : Ending) (w' : World) : Prop := ∃ r : Bool, e = .returned (.bool r) ∧ (r = true ↔ p) ∧ Below w.heap.size w w'
theorem SomeBool.yes {p : Prop} {w w' : World} (h : p) (hb : Below w.heap.size w w') : SomeBool p w (.returned (.bool true)) w' := ⟨true, rfl, by simp [h], hb⟩
theorem SomeBool.no {p : Prop} {w w' : World} (h : ¬ p) (hb : Below w.heap.size w w') : SomeBool p w (.returned (.bool false)) w' := ⟨false, rfl, by simp [h], hb⟩
theorem SomeBool.iff {p q : Prop} {w w' : World} {e : Ending} (h : SomeBool p w e w') (hpq : p ↔ q) : SomeBool q w e w' := by obtain ⟨r, h1, h2, h3⟩ := h; exact ⟨r, h1, h2.trans hpq, h3⟩

def GoodAt (xs : List Int) (lo hi : Int) (i : Nat) : Prop := lo ≤ xs[i]?.getD 0 ∧ xs[i]?.getD 0 ≤ hi ∧ (0 < i → xs[i - 1]?.getD 0 < xs[i]?.getD 0)
def Rises (xs : List Int) (lo hi : Int) : Prop := ∀ i, i < xs.length → GoodAt xs lo hi i

set_option maxRecDepth 100000 in
set_option maxHeartbeats 2000000 in
theorem rises_any (A : Option Addr) (n c : Nat) (xs : List Int) (lo hi : Int) (w : World) (hr : IntsAt w A n xs) (hn : n ≤ 140737488355328) :
    Calls Try.prog 83 #[.slice A n c, .int .i64 lo, .int .i64 hi] w (SomeBool (Rises xs lo hi) w) := by
  have hlen := hr.1
  go_enter Try.func83, Try.ntmps83
  go_wp2
  go_loop [11] (fun i => ∃ k : Nat, k ≤ n ∧ i = .int .i64 k ∧ Hid (∀ j, j < k → GoodAt xs lo hi j)) (fun i => n - (intOf i).toNat)
  case atStart => exact ⟨0, Nat.zero_le _, rfl, Lib.hid fun j hj => absurd hj (Nat.not_lt_zero _)⟩
  case round =>
    obtain ⟨k, hk, rfl, hgood⟩ := hrel
    by_cases hlt : k < n
    · obtain ⟨b, off, hA, hrow⟩ := hr.2 (by omega)
      have hx0 := hrow.2 k (by omega)
      have hbad : Hid (¬ GoodAt xs lo hi k → ¬ Rises xs lo hi) := Lib.hid fun h1 h2 => h1 (h2 k (by omega))
      have hnext : Hid (GoodAt xs lo hi k → ∀ j, j < k + 1 → GoodAt xs lo hi j) := Lib.hid fun h1 j hj => by
        rcases Nat.lt_or_ge j k with h | h
        · exact hgood.out j h
        · have : j = k := by omega
          subst this; exact h1
      have hgd : Hid (GoodAt xs lo hi k ↔ (lo ≤ xs[k]?.getD 0 ∧ xs[k]?.getD 0 ≤ hi ∧ (0 < k → xs[k - 1]?.getD 0 < xs[k]?.getD 0))) := Lib.hid Iff.rfl
      have hx1 : 0 < k → w.cell? ⟨b, off + (k - 1), none⟩ = some (.int .i64 (xs[k - 1]?.getD 0)) := fun _ => hrow.2 (k - 1) (by omega)
      clear hrow hlen
      generalize xs[k]?.getD 0 = x at hx0 hgd
      generalize xs[k - 1]?.getD 0 = y at hx1 hgd
      subst hA
      by_cases c1 : x < lo
      · have hno := hbad.out (fun h => by have := (hgd.out.1 h).1; omega)
        replace hno := Lib.hid hno
        clear hx1
        go_wp2
        go_ret
        exact SomeBool.no hno.out (Below.refl _ _)
      · have c1' : decide (x < lo) = false := by simpa using c1
        by_cases c2 : hi < x
        · have hno := hbad.out (fun h => by have := (hgd.out.1 h).2.1; omega)
          replace hno := Lib.hid hno
          clear hx1
          go_wp2
          go_ret
          exact SomeBool.no hno.out (Below.refl _ _)
        · have c2' : decide (hi < x) = false := by simpa using c2
          by_cases c3 : 0 < k
          · have hx1' := hx1 c3
            have e1 : ((k : Int) - 1).toNat = k - 1 := by omega
            have e2 : (k : Int) - 1 < n := by omega
            have e3 : 0 ≤ (k : Int) - 1 := by omega
            have e4 : 1 ≤ (k : Int) := by omega
            have c3' : decide (0 < (k : Int)) = true := by simp; omega
            clear hx1
            by_cases c4 : x ≤ y
            · have hno := hbad.out (fun h => by have := (hgd.out.1 h).2.2 c3; omega)
              replace hno := Lib.hid hno
              go_wp2
              go_ret
              exact SomeBool.no hno.out (Below.refl _ _)
            · have c4' : decide (x ≤ y) = false := by simpa using c4
              have hyes := Lib.hid (hnext.out (hgd.out.2 ⟨by omega, by omega, fun _ => by omega⟩))
              go_wp2
              go_round
              case rel => exact ⟨k + 1, by omega, by go_num, hyes⟩
              case measure => simp [intOf]; omega
          · have c3' : decide (0 < (k : Int)) = false := by simp; omega
            have hyes := Lib.hid (hnext.out (hgd.out.2 ⟨by omega, by omega, fun h => absurd h c3⟩))
            clear hx1
            go_wp2
            go_round
            case rel => exact ⟨k + 1, by omega, by go_num, hyes⟩
            case measure => simp [intOf]; omega
    · have hk' : k = n := by omega
      subst hk'
      have hyes : Hid (Rises xs lo hi) := Lib.hid fun i hi => hgood.out i (by omega)
      go_wp2
      go_ret
      exact SomeBool.yes hyes.out (Below.refl _ _)

set_option maxRecDepth 100000 in
set_option maxHeartbeats 2000000 in
theorem validAxis_any (A : Option Addr) (n c : Nat) (xs : List Int) (lo hi : Int) (w : World) (hr : IntsAt w A n xs) (hn : n ≤ 140737488355328) :
    Calls Try.prog 74 #[.slice A n c, .int .i64 lo, .int .i64 hi] w (SomeBool (2 ≤ n ∧ n ≤ 32 ∧ Rises xs lo hi) w) := by
  have h := rises_any A n c xs lo hi w hr hn
  replace h := Lib.hid h
  by_cases c1 : 2 ≤ n
  · have c1' : decide ((2 : Int) ≤ (n : Int)) = true := by simp; omega
    by_cases c2 : n ≤ 32
    · have c2' : decide ((n : Int) ≤ 32) = true := by simp; omega
      go_enter Try.func74, Try.ntmps74
      go_wp2_with fail
      refine h.out.mono ?_
      rintro e w1 ⟨r, rfl, hr1, hb1⟩
      replace hr1 := Lib.hid hr1
      cases r
      · go_wp2
        go_ret
        exact SomeBool.no (fun h => by have := hr1.out.2 h.2.2; cases this) hb1
      · go_wp2
        go_ret
        exact SomeBool.yes ⟨c1, c2, hr1.out.1 (by simp)⟩ hb1
    · have c2' : decide ((n : Int) ≤ 32) = false := by simp; omega
      go_enter Try.func74, Try.ntmps74
      go_wp2
      go_ret
      exact SomeBool.no (fun h => c2 h.2.1) (Below.refl _ _)
  · have c1' : decide ((2 : Int) ≤ (n : Int)) = false := by simp; omega
    go_enter Try.func74, Try.ntmps74
    go_wp2
    go_ret
    exact SomeBool.no (fun h => c1 h.1) (Below.refl _ _)

def ShownOk (rows : List (List Int)) (m : Nat) : Prop := ∀ i, i < rows.length → (rows[i]?.getD []).length = m ∧ Rises (rows[i]?.getD []) (-10000) 20000

set_option maxRecDepth 100000 in
set_option maxHeartbeats 2000000 in
theorem validShown_any (A : Option Addr) (n c : Nat) (rows : List (List Int)) (count m : Nat) (w : World) (hr : RowsAt w A n rows) (hn : n ≤ 140737488355328) (hc : count ≤ 140737488355328) (_ : m ≤ 140737488355328) (hl : Hid (∀ i : Nat, (rows[i]?.getD []).length ≤ 140737488355328)) :
    Calls Try.prog 75 #[.slice A n c, .int .i64 count, .int .i64 m] w (SomeBool (n = count ∧ ShownOk rows m) w) := by
  by_cases c0 : n = count
  · subst c0
    have c0' : ((n : Int) != (n : Int)) = false := by simp
    go_enter Try.func75, Try.ntmps75
    go_wp2
    go_loopw [15] (fun i wr => ∃ k : Nat, k ≤ n ∧ i = .int .i64 k ∧ Below w.heap.size w wr ∧ Hid (∀ j, j < k → (rows[j]?.getD []).length = m ∧ Rises (rows[j]?.getD []) (-10000) 20000)) (fun i _ => n - (intOf i).toNat)
    case atStart => exact ⟨0, Nat.zero_le _, rfl, Below.refl _ _, Lib.hid fun j hj => absurd hj (Nat.not_lt_zero _)⟩
    case round =>
      obtain ⟨k, hk, rfl, hbr, hgood⟩ := hrel
      by_cases hlt : k < n
      · obtain ⟨b, off, hA, hbl⟩ := hr.2.1 (by omega)
        obtain ⟨A', c', hcell, hints⟩ := hr.2.2 b off hA k hlt
        have hcell' := cell_later hbr hcell
        have hints' := hints.below hbr
        have hlk := hl.out k
        have hnext : Hid ((rows[k]?.getD []).length = m ∧ Rises (rows[k]?.getD []) (-10000) 20000 → ∀ j, j < k + 1 → (rows[j]?.getD []).length = m ∧ Rises (rows[j]?.getD []) (-10000) 20000) := Lib.hid fun h1 j hj => by
          rcases Nat.lt_or_ge j k with h | h
          · exact hgood.out j h
          · have : j = k := by omega
            subst this; exact h1
        have hbad : Hid (¬ ((rows[k]?.getD []).length = m ∧ Rises (rows[k]?.getD []) (-10000) 20000) → ¬ ShownOk rows m) := Lib.hid fun h1 h2 => h1 (h2 k (by have := hr.1; omega))
        clear hcell hints
        generalize rows[k]?.getD [] = row at hcell' hints' hlk hnext hbad
        have hcall := Lib.hid (rises_any A' row.length c' row (-10000) 20000 wr hints' hlk)
        subst hA
        clear hr hints'
        by_cases c1 : row.length = m
        · have c1' : ((row.length : Int) != (m : Int)) = false := by simp; omega
          have c1h := Lib.hid c1
          clear c1
          go_wp2_with fail
          refine hcall.out.mono ?_
          rintro e w1 ⟨r, rfl, hr1, hb1⟩
          replace hr1 := Lib.hid hr1
          cases r
          · go_wp2
            go_ret
            exact SomeBool.no (fun h => hbad.out (fun h2 => by have := hr1.out.2 h2.2; cases this) h.2) (hbr.trans (hb1.mono hbr.size))
          · go_wp2
            go_roundw
            case rel => exact ⟨k + 1, by omega, by go_num, hbr.trans (hb1.mono hbr.size), Lib.hid (hnext.out ⟨c1h.out, hr1.out.1 (by simp)⟩)⟩
            case measure => simp [intOf]; omega
        · have c1' : ((row.length : Int) != (m : Int)) = true := by simp; omega
          go_wp2
          go_ret
          exact SomeBool.no (fun h => hbad.out (fun h2 => c1 h2.1) h.2) hbr
      · have hk' : k = n := by omega
        subst hk'
        have hyes : Hid (ShownOk rows m) := Lib.hid fun i hi => hgood.out i (by have := hr.1; omega)
        go_wp2
        go_ret
        exact SomeBool.yes ⟨by simp, hyes.out⟩ hbr
  · have c0' : ((n : Int) != (count : Int)) = true := by simp; omega
    go_enter Try.func75, Try.ntmps75
    go_wp2
    go_ret
    exact SomeBool.no (fun h => c0 h.1) (Below.refl _ _)
end Go.Proofs.Ytcghafdemklnnaa
