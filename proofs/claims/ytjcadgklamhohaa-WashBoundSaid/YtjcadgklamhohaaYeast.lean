/- validYeast: whether a yeast is valid. -/
import Derived.Test.YtjcadgklamhohaaVat
namespace Go.Proofs.Ytjcadgklamhohaa
open Go.RowKit Go.Sort
attribute [local go_sem] Oper.calm Oper.calmAt Oper.calmUpon

def yeastCells (A : Option Addr) (ca : Nat) (B : Option Addr) (cb : Nat) (y : YeastV) : Array Value := #[.slice A y.ts.length ca, .slice B y.rs.length cb, .int .i64 y.p1, .int .i64 y.p2, .int .i64 y.g1, .int .i64 y.g2, .int .i64 y.h1, .int .i64 y.h2]
/-- the lists of a yeast lie in memory -/
structure YeastAt (w : World) (A B : Option Addr) (y : YeastV) : Prop where
  ts : IntsAt w A y.ts
  rs : SpansAt w B y.rs
  lt : y.ts.length ≤ 140737488355328
  lr : y.rs.length ≤ 140737488355328
theorem YeastAt.later {w w' : World} {A B : Option Addr} {y : YeastV} (h : YeastAt w A B y) (hb : Below w.heap.size w w') : YeastAt w' A B y := ⟨h.ts.later hb, h.rs.later hb, h.lt, h.lr⟩
theorem YeastAt.since {w0 w w' : World} {A B : Option Addr} {y : YeastV} (h : YeastAt w0 A B y) (hb : Below w0.heap.size w0 w) (hb' : Below w.heap.size w w') : YeastAt w' A B y := h.later (hb.trans (hb'.mono hb.size))
theorem allIn_rates {y : YeastV} : AllIn 0 1000 y.rs ↔ RatesOk y y.rs.length := Iff.rfl

set_option maxHeartbeats 8000000 in
set_option maxRecDepth 100000 in
theorem validYeast_any (y : YeastV) (A : Option Addr) (ca : Nat) (B : Option Addr) (cb : Nat) (w : World) (hy : Hid (YeastAt w A B y)) :
    Calls Try.prog 75 #[.agg (yeastCells A ca B cb y)] w (SomeBool (YeastOk y) w) := by
  have hyes := Lib.hid fun (h1 : y.ts.length ≤ 16) (h2 : y.rs.length = y.ts.length + 1) (h3 : TempsOk y y.ts.length) (h4 : AllIn 0 1000 y.rs) (h5 : SpIn 0 1000 y.p1 y.p2) (h6 : SpIn 0 1000 y.g1 y.g2) (h7 : SpIn 0 10000 y.h1 y.h2) W (hB : Below w.heap.size w W) => SomeBool.yes (p := YeastOk y) ⟨h1, h2, h3, h4, h5, h6, h7⟩ hB
  have hno := Lib.hid fun (h : ¬ YeastOk y) W (hB : Below w.heap.size w W) => SomeBool.no h hB
  have hno1 := Lib.hid fun (h : ¬ y.ts.length ≤ 16) => hno.out fun k => h k.len
  have hno2 := Lib.hid fun (h : ¬ y.rs.length = y.ts.length + 1) => hno.out fun k => h k.rates
  have hno3 := Lib.hid fun (i : Nat) (hi : i < y.ts.length) (h : ¬ SpIn (-50000) 150000 (tempAt y i) (tempAt y i)) => hno.out fun k => h ⟨(k.temps i hi).1.1, Int.le_refl _, (k.temps i hi).1.2⟩
  have hno4 := Lib.hid fun (i : Nat) (hi : i < y.ts.length) (h0 : 0 < i) (h : tempAt y i ≤ tempAt y (i - 1)) => hno.out fun k => by have := (k.temps i hi).2 h0; omega
  have hno5 := Lib.hid fun (h : ¬ AllIn 0 1000 y.rs) => hno.out fun k => h k.parts
  have hno6 := Lib.hid fun (h : ¬ SpIn 0 1000 y.p1 y.p2) => hno.out fun k => h k.p
  have hno7 := Lib.hid fun (h : ¬ SpIn 0 1000 y.g1 y.g2) => hno.out fun k => h k.g
  have hno8 := Lib.hid fun (h : ¬ SpIn 0 10000 y.h1 y.h2) => hno.out fun k => h k.h
  clear hno
  have hdg := Lib.hid degrees_any
  have hex := Lib.hid exactly_any
  have hco := Lib.hid covers_any
  have hal := Lib.hid fun W (hs : Hid (SpansAt W B y.rs)) => all_any 0 1000 B cb y.rs W hs hy.out.lr
  have hl1 := hy.out.lt
  have hl2 := hy.out.lr
  have hyw := Lib.hid fun W (hb : Below w.heap.size w W) => hy.out.later hb
  clear hy
  simp only [yeastCells]
  have hta : ∀ i : Nat, y.ts[i]?.getD 0 = tempAt y i := fun _ => rfl
  by_cases k1 : 16 < y.ts.length
  · have k1' : (16 : Int) < y.ts.length := by omega
    replace hno1 := Lib.hid (hno1.out (by omega))
    clear k1 hta
    go_enter Try.func75, Try.ntmps75
    go_wp2_with fail
    go_ret
    exact hno1.out _ ((Below.refl _ _).alloc (Nat.le_refl _) _)
  have k1' : ¬ (16 : Int) < y.ts.length := by omega
  have r1 : IntKind.i64.wrap ((y.ts.length : Int) + 1) = (y.ts.length : Int) + 1 := IntWalk.i64_in _ (by omega)
  by_cases k2 : y.rs.length = y.ts.length + 1
  case neg =>
    have k2' : ((y.rs.length : Int) != (y.ts.length : Int) + 1) = true := by simp; omega
    replace hno2 := Lib.hid (hno2.out k2)
    clear k1 k2 hta
    go_enter Try.func75, Try.ntmps75
    go_wp2_with fail
    go_ret
    exact hno2.out _ ((Below.refl _ _).alloc (Nat.le_refl _) _)
  have k2' : ((y.rs.length : Int) != (y.ts.length : Int) + 1) = false := by simp; omega
  replace hyes := Lib.hid (hyes.out (by omega) k2)
  clear k2 hno1 hno2
  go_enter Try.func75, Try.ntmps75
  go_upto_region 4 with fail
  refine wp_world (fun W => Below w.heap.size w W ∧ Blk W w.heap.size 36 #[.slice A y.ts.length ca, .slice B y.rs.length cb, .int .i64 y.p1, .int .i64 y.p2, .int .i64 y.g1, .int .i64 y.g2, .int .i64 y.h1, .int .i64 y.h2]) ⟨(Below.refl _ _).alloc (Nat.le_refl _) _, Blk.new _ _ _⟩ ?_
  rintro W0 ⟨hB, b0⟩
  clear k2' r1
  go_loopw [23] (fun i wr => ∃ k : Nat, k ≤ y.ts.length ∧ i = .int .i64 k ∧ Below w.heap.size w wr ∧ Blk wr w.heap.size 36 #[.slice A y.ts.length ca, .slice B y.rs.length cb, .int .i64 y.p1, .int .i64 y.p2, .int .i64 y.g1, .int .i64 y.g2, .int .i64 y.h1, .int .i64 y.h2] ∧ Hid (TempsOk y k)) (fun i _ => y.ts.length - (intOf i).toNat)
  case atStart => exact ⟨0, Nat.zero_le _, rfl, hB, b0, Lib.hid fun j h => by omega⟩
  case round =>
    clear hB b0
    obtain ⟨k, hk, rfl, hB, b0, hd⟩ := hrel
    obtain ⟨x0, x1, x2, x3, x4, x5, x6, x7⟩ := b0.facts8
    by_cases hlt : k < y.ts.length
    · obtain ⟨b, off, rfl, hb, hc⟩ := (hyw.out _ hB).ts (by omega)
      have hcb := Lib.hid fun W (hb' : Below w.heap.size w W) i (hi : i < y.ts.length) => by
        obtain ⟨b', off', e1, e2, e3⟩ := (hyw.out _ hb').ts (by omega)
        cases e1
        have := e3 i hi
        rw [hta] at this
        exact this
      have z0 := hc k hlt
      rw [hta] at z0
      clear hc hb
      have hlt' : (k : Int) < y.ts.length := by omega
      replace hno3 := Lib.hid (hno3.out k hlt)
      replace hno4 := Lib.hid (hno4.out k hlt)
      have hd2 := Lib.hid (show SpIn (-50000) 150000 (tempAt y k) (tempAt y k) → (0 < k → tempAt y (k - 1) < tempAt y k) → TempsOk y (k + 1) from fun h1 h2 j hj => by
        by_cases e : j = k
        · subst e; exact ⟨⟨h1.1, h1.2.2⟩, h2⟩
        · exact hd.out j (by omega))
      clear hd
      go_wp2_with fail
      refine (hdg.out _).mono ?_
      rintro e W1 ⟨rfl, hb1⟩
      replace b0 := b0.below hb1 b0.lt
      replace hB := hB.trans (hb1.mono hB.size)
      clear hb1 z0 x0 x1 x2 x3 x4 x5 x6 x7
      obtain ⟨x0, x1, x2, x3, x4, x5, x6, x7⟩ := b0.facts8
      go_wp2_with fail
      refine (hex.out _ _).mono ?_
      rintro e W2 ⟨rfl, hb1⟩
      replace b0 := b0.below hb1 b0.lt
      replace hB := hB.trans (hb1.mono hB.size)
      clear hb1 x0 x1 x2 x3 x4 x5 x6 x7
      obtain ⟨x0, x1, x2, x3, x4, x5, x6, x7⟩ := b0.facts8
      go_wp2_with fail
      refine (hco.out _ _ _ _ _).mono ?_
      rintro e W3 ⟨r, rfl, hr, hb1⟩
      replace b0 := b0.below hb1 b0.lt
      replace hB := hB.trans (hb1.mono hB.size)
      clear hb1 x0 x1 x2 x3 x4 x5 x6 x7 hdg hex hco
      obtain ⟨x0, x1, x2, x3, x4, x5, x6, x7⟩ := b0.facts8
      cases r with
      | false =>
        replace hno3 := Lib.hid (hno3.out (fun h => Bool.noConfusion (hr.2 h)))
        clear hr hd2 hno4 hta hcb
        go_wp2_with fail
        go_ret
        exact hno3.out _ hB
      | true =>
        replace hd2 := Lib.hid (hd2.out (hr.1 rfl))
        clear hr hno3
        by_cases h0 : 0 < k
        · have h0' : (0 : Int) < k := by omega
          have z1 := hcb.out _ hB (k - 1) (by omega)
          have i1 : IntKind.i64.wrap ((k : Int) - 1) = (k : Int) - 1 := IntWalk.i64_in _ (by omega)
          have i2 : ((k : Int) - 1).toNat = k - 1 := by omega
          have i3 : (k : Int) - 1 < y.ts.length := by omega
          have i4 : (1 : Int) ≤ k := by omega
          have i5 : (0 : Int) ≤ (k : Int) - 1 := by omega
          replace hno4 := Lib.hid (hno4.out h0)
          by_cases h4 : tempAt y k ≤ tempAt y (k - 1)
          · have h4' : decide (tempAt y k ≤ tempAt y (k - 1)) = true := by simpa using h4
            replace hno4 := Lib.hid (hno4.out h4)
            clear hd2 hta hcb h4
            go_wp2_with fail
            go_ret
            exact hno4.out _ hB
          · have h4' : decide (tempAt y k ≤ tempAt y (k - 1)) = false := by simpa using h4
            replace hd2 := Lib.hid (hd2.out (fun _ => by omega))
            clear hno4 hta hcb h4
            go_wp2_with fail
            go_roundw
            case rel => exact ⟨k + 1, by omega, by go_num, hB, b0, hd2⟩
            case measure => simp [intOf]; omega
        · have hk0 : k = 0 := by omega
          replace hd2 := Lib.hid (hd2.out (fun h => absurd h h0))
          subst hk0
          clear hno4 hta hcb h0
          go_wp2_with fail
          go_roundw
          case rel => exact ⟨1, by omega, by go_num, hB, b0, hd2⟩
          case measure => simp [intOf]; omega
    · have hk' : k = y.ts.length := by omega
      subst hk'
      replace hyes := Lib.hid (hyes.out hd.out)
      clear hd hno3 hno4 hdg hex hta
      have hsp := Lib.hid (hyw.out _ hB).rs
      go_wp2_with fail
      refine (hal.out _ hsp).mono ?_
      rintro e W1 ⟨r, rfl, hr, hb1⟩
      replace b0 := b0.below hb1 b0.lt
      replace hB := hB.trans (hb1.mono hB.size)
      clear hb1 x0 x1 x2 x3 x4 x5 x6 x7 hal hsp hyw
      obtain ⟨x0, x1, x2, x3, x4, x5, x6, x7⟩ := b0.facts8
      cases r with
      | false =>
        replace hno5 := Lib.hid (hno5.out (fun h => Bool.noConfusion (hr.2 h)))
        clear hr hyes hno6 hno7 hno8
        go_wp2_with fail
        go_ret
        exact hno5.out _ hB
      | true =>
        replace hyes := Lib.hid (hyes.out (hr.1 rfl))
        clear hr hno5
        go_wp2_with fail
        refine (hco.out _ _ _ _ _).mono ?_
        rintro e W2 ⟨r, rfl, hr, hb1⟩
        replace b0 := b0.below hb1 b0.lt
        replace hB := hB.trans (hb1.mono hB.size)
        clear hb1 x0 x1 x2 x3 x4 x5 x6 x7
        obtain ⟨x0, x1, x2, x3, x4, x5, x6, x7⟩ := b0.facts8
        cases r with
        | false =>
          replace hno6 := Lib.hid (hno6.out (fun h => Bool.noConfusion (hr.2 h)))
          clear hr hyes hno7 hno8
          go_wp2_with fail
          go_ret
          exact hno6.out _ hB
        | true =>
          replace hyes := Lib.hid (hyes.out (hr.1 rfl))
          clear hr hno6
          go_wp2_with fail
          refine (hco.out _ _ _ _ _).mono ?_
          rintro e W3 ⟨r, rfl, hr, hb1⟩
          replace b0 := b0.below hb1 b0.lt
          replace hB := hB.trans (hb1.mono hB.size)
          clear hb1 x0 x1 x2 x3 x4 x5 x6 x7
          obtain ⟨x0, x1, x2, x3, x4, x5, x6, x7⟩ := b0.facts8
          cases r with
          | false =>
            replace hno7 := Lib.hid (hno7.out (fun h => Bool.noConfusion (hr.2 h)))
            clear hr hyes hno8
            go_wp2_with fail
            go_ret
            exact hno7.out _ hB
          | true =>
            replace hyes := Lib.hid (hyes.out (hr.1 rfl))
            clear hr hno7
            go_wp2_with fail
            refine (hco.out _ _ _ _ _).mono ?_
            rintro e W4 ⟨r, rfl, hr, hb1⟩
            replace hB := hB.trans (hb1.mono hB.size)
            clear hb1 x0 x1 x2 x3 x4 x5 x6 x7 b0 hco
            cases r with
            | false =>
              replace hno8 := Lib.hid (hno8.out (fun h => Bool.noConfusion (hr.2 h)))
              clear hr hyes
              go_wp2_with fail
              go_ret
              exact hno8.out _ hB
            | true =>
              replace hyes := Lib.hid (hyes.out (hr.1 rfl))
              clear hr hno8
              go_wp2_with fail
              go_ret
              exact hyes.out _ hB
end Go.Proofs.Ytjcadgklamhohaa
