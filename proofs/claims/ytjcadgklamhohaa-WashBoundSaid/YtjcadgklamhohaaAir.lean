/- Air: how much gas is in a room behind each hour. -/
import Derived.Test.YtjcadgklamhohaaRowsOf
import Derived.Test.YtjcadgklamhohaaRooms
import Derived.Test.YtjcadgklamhohaaRefBase
namespace Go.Proofs.Ytjcadgklamhohaa
open Go.RowKit Go.Sort
attribute [local go_sem] Oper.calm Oper.calmAt Oper.calmUpon

/-- the gas behind so many hours -/
def gasAt (k : Int) (s : Int × Int) (l : List (Int × Int)) : Nat → Int × Int
  | 0 => s
  | n + 1 => (((gasAt k s l n).1 + (l[n]?.getD (0, 0)).1) * k / 1000, upQ (((gasAt k s l n).2 + (l[n]?.getD (0, 0)).2) * k) 1000)
def gasN (k : Int) (s : Int × Int) (l : List (Int × Int)) (n : Nat) : List (Int × Int) := (List.range n).map fun i => gasAt k s l (i + 1)
theorem gasN_len {k : Int} {s : Int × Int} {l : List (Int × Int)} {n : Nat} : (gasN k s l n).length = n := by simp [gasN]
theorem gasN_succ {k : Int} {s : Int × Int} {l : List (Int × Int)} {n : Nat} : gasN k s l (n + 1) = gasN k s l n ++ [gasAt k s l (n + 1)] := by simp [gasN, List.range_succ]
/-- so many hours are within the limit -/
def Airy (k : Int) (s : Int × Int) (l : List (Int × Int)) (n : Nat) : Prop := ∀ i, i < n → (gasAt k s l (i + 1)).2 ≤ 1073741824
def RoomOk (s : Int × Int) (l : List (Int × Int)) : Prop := SpIn 0 1073741824 s.1 s.2 ∧ AllIn 0 1073741824 l
theorem gas_bd {k : Int} {s : Int × Int} {l : List (Int × Int)} (hk : 0 ≤ k ∧ k ≤ 1000) (h : RoomOk s l) : ∀ n, n ≤ l.length → Airy k s l n → SpIn 0 1073741824 (gasAt k s l n).1 (gasAt k s l n).2
  | 0, _, _ => h.1
  | n + 1, hn, ha => by
    obtain ⟨a0, a1, a2⟩ := gas_bd hk h n (by omega) (fun i hi => ha i (by omega))
    obtain ⟨b0, b1, b2⟩ := h.2 n (by omega)
    have e1 := prod_bd (A := 2147483648) (B := 1000) (show 0 ≤ (gasAt k s l n).1 + (l[n]?.getD (0, 0)).1 by omega) (by omega) hk.1 hk.2
    have e2 := prod_mono (show 0 ≤ (gasAt k s l n).1 + (l[n]?.getD (0, 0)).1 by omega) (show (gasAt k s l n).1 + (l[n]?.getD (0, 0)).1 ≤ (gasAt k s l n).2 + (l[n]?.getD (0, 0)).2 by omega) hk.1 (Int.le_refl k)
    have e3 := ha n (by omega)
    refine ⟨?_, ?_, e3⟩
    · simp only [gasAt]; omega
    · simp only [gasAt]
      unfold upQ
      omega
/-- what is reckoned in an hour is small -/
theorem gas_step {k : Int} {s : Int × Int} {l : List (Int × Int)} (hk : 0 ≤ k ∧ k ≤ 1000) (h : RoomOk s l) (n : Nat) (hn : n < l.length) (ha : Airy k s l n) :
    (0 ≤ (gasAt k s l n).1 + (l[n]?.getD (0, 0)).1 ∧ (gasAt k s l n).1 + (l[n]?.getD (0, 0)).1 ≤ 2147483648) ∧ (0 ≤ (gasAt k s l n).2 + (l[n]?.getD (0, 0)).2 ∧ (gasAt k s l n).2 + (l[n]?.getD (0, 0)).2 ≤ 2147483648) ∧
    (0 ≤ ((gasAt k s l n).1 + (l[n]?.getD (0, 0)).1) * k ∧ ((gasAt k s l n).1 + (l[n]?.getD (0, 0)).1) * k ≤ 2147483648000) ∧ (0 ≤ ((gasAt k s l n).2 + (l[n]?.getD (0, 0)).2) * k ∧ ((gasAt k s l n).2 + (l[n]?.getD (0, 0)).2) * k ≤ 2147483648000) := by
  obtain ⟨a0, a1, a2⟩ := gas_bd hk h n (by omega) ha
  obtain ⟨b0, b1, b2⟩ := h.2 n hn
  have e1 := prod_bd (A := 2147483648) (B := 1000) (show 0 ≤ (gasAt k s l n).1 + (l[n]?.getD (0, 0)).1 by omega) (by omega) hk.1 hk.2
  have e2 := prod_bd (A := 2147483648) (B := 1000) (show 0 ≤ (gasAt k s l n).2 + (l[n]?.getD (0, 0)).2 by omega) (by omega) hk.1 hk.2
  refine ⟨by omega, by omega, by omega, by omega⟩
def VentOk (v : Int) : Prop := 0 ≤ v ∧ v ≤ 1000
/-- the amounts and the error -/
def AirIs (s : Int × Int) (l : List (Int × Int)) (v : Int) (r : List (Int × Int)) (k : Int) : Prop :=
  (200 < l.length ∧ r = [] ∧ k = 3) ∨ (l.length ≤ 200 ∧ ((¬ RoomOk s l ∧ r = [] ∧ k = 1) ∨ (RoomOk s l ∧ ((¬ VentOk v ∧ r = [] ∧ k = 2) ∨
    (VentOk v ∧ ((¬ Airy (1000 - v) s l l.length ∧ r = [] ∧ k = 12) ∨ (Airy (1000 - v) s l l.length ∧ r = gasN (1000 - v) s l l.length ∧ k = 0)))))))
theorem AirIs.uniq {s : Int × Int} {l : List (Int × Int)} {v k k' : Int} {r r' : List (Int × Int)} (h : AirIs s l v r k) (h' : AirIs s l v r' k') : r' = r ∧ k' = k := by
  rcases h with ⟨h1, h2, h3⟩ | ⟨h1, ⟨h2, h3, h4⟩ | ⟨h2, ⟨h3, h4, h5⟩ | ⟨h3, ⟨h4, h5, h6⟩ | ⟨h4, h5, h6⟩⟩⟩⟩ <;> rcases h' with ⟨g1, g2, g3⟩ | ⟨g1, ⟨g2, g3, g4⟩ | ⟨g2, ⟨g3, g4, g5⟩ | ⟨g3, ⟨g4, g5, g6⟩ | ⟨g4, g5, g6⟩⟩⟩⟩ <;> first
    | contradiction
    | (exfalso; omega)
    | (subst_vars; exact ⟨rfl, rfl⟩)
/-- a list of spans and an error; the list is new -/
def SpansErr (p : List (Int × Int) → Int → Prop) (w : World) (e : Ending) (w' : World) : Prop :=
  ∃ (r : List (Int × Int)) (k : Int) (A : Option Addr) (c : Nat), e = .returned (.tuple #[.slice A r.length c, .int .i64 k]) ∧ p r k ∧ SpansAt w' A r ∧ (0 < r.length → ∃ b, A = some ⟨b, 0, none⟩ ∧ w.heap.size ≤ b) ∧ Below w.heap.size w w'
theorem SpansErr.none {p : List (Int × Int) → Int → Prop} {w w' : World} {k : Int} (h : p [] k) (hb : Below w.heap.size w w') : SpansErr p w (.returned (.tuple #[.slice none 0 0, .int .i64 k])) w' :=
  ⟨[], k, Option.none, 0, rfl, h, SpansAt.nil _ _, fun h => absurd h (Nat.lt_irrefl 0), hb⟩
theorem info_span : (Try.prog.info? 23).map (fun i => (i.zero, i.size, i.bytes)) = some (some (.agg #[.int .i64 0, .int .i64 0]), 2, 16) := by kernel_rfl

set_option maxHeartbeats 16000000 in
set_option maxRecDepth 100000 in
theorem Air_any (s1 s2 : Int) (A : Option Addr) (c : Nat) (l : List (Int × Int)) (v : Int) (w : World) (hl : Hid (SpansAt w A l)) (hlen : l.length ≤ 140737488355328) :
    Calls Try.prog 30 #[.agg #[.int .i64 s1, .int .i64 s2], .slice A l.length c, .int .i64 v] w (SpansErr (AirIs (s1, s2) l v) w) := by
  have h3 := Lib.hid fun (h : 200 < l.length) W (hB : Below w.heap.size w W) => SpansErr.none (p := AirIs (s1, s2) l v) (k := 3) (.inl ⟨h, rfl, rfl⟩) hB
  have h1 := Lib.hid fun (h : l.length ≤ 200) (h' : ¬ RoomOk (s1, s2) l) W (hB : Below w.heap.size w W) => SpansErr.none (p := AirIs (s1, s2) l v) (k := 1) (.inr ⟨h, .inl ⟨h', rfl, rfl⟩⟩) hB
  have h2 := Lib.hid fun (h : l.length ≤ 200) (h' : RoomOk (s1, s2) l) (h'' : ¬ VentOk v) W (hB : Below w.heap.size w W) => SpansErr.none (p := AirIs (s1, s2) l v) (k := 2) (.inr ⟨h, .inr ⟨h', .inl ⟨h'', rfl, rfl⟩⟩⟩) hB
  have h12 := Lib.hid fun (h : l.length ≤ 200) (h' : RoomOk (s1, s2) l) (h'' : VentOk v) (n : Nat) (hn : n < l.length) (hm : 1073741824 < (gasAt (1000 - v) (s1, s2) l (n + 1)).2) W (hB : Below w.heap.size w W) =>
    SpansErr.none (p := AirIs (s1, s2) l v) (k := 12) (.inr ⟨h, .inr ⟨h', .inr ⟨h'', .inl ⟨fun ha => by have := ha n hn; omega, rfl, rfl⟩⟩⟩⟩) hB
  have h0 := Lib.hid fun (h : l.length ≤ 200) (h' : RoomOk (s1, s2) l) (h'' : VentOk v) (ha : Airy (1000 - v) (s1, s2) l l.length) W (B : Option Addr) (cb : Nat) (hB : Below w.heap.size w W) (hs : SpansAt W B (gasN (1000 - v) (s1, s2) l l.length)) (hn : 0 < l.length → ∃ b, B = some ⟨b, 0, none⟩ ∧ w.heap.size ≤ b) =>
    (show SpansErr (AirIs (s1, s2) l v) w (.returned (.tuple #[.slice B l.length cb, .int .i64 0])) W from ⟨_, _, _, _, by rw [gasN_len], .inr ⟨h, .inr ⟨h', .inr ⟨h'', .inr ⟨ha, rfl, rfl⟩⟩⟩⟩, hs, fun h0 => hn (by rwa [gasN_len] at h0), hB⟩)
  have hlw := Lib.hid fun W (hb : Below w.heap.size w W) => hl.out.later hb
  have hst := Lib.hid fun (h' : RoomOk (s1, s2) l) (h'' : VentOk v) n hn ha => gas_step (k := 1000 - v) ⟨by have := h''.2; omega, by have := h''.1; omega⟩ h' n hn ha
  clear hl
  obtain ⟨i0, hi, hz0, hz1, hz2⟩ := info_parts info_span
  replace hz0 := Lib.hid hz0
  replace hz1 := Lib.hid hz1
  replace hz2 := Lib.hid hz2
  replace hi := Lib.hid hi
  by_cases hlong : 200 < l.length
  · have q1 : (200 : Int) < l.length := by omega
    replace h3 := Lib.hid (h3.out hlong)
    clear h0 h1 h2 h12 hst hi hz0 hz1 hz2 hlw
    go_enter Try.func30, Try.ntmps30
    go_wp2
    go_ret2
    exact h3.out _ ((Below.refl _ _).alloc (Nat.le_refl _) _)
  have q1 : ¬ (200 : Int) < l.length := by omega
  have hle : l.length ≤ 200 := by omega
  replace h0 := Lib.hid (h0.out hle)
  replace h1 := Lib.hid (h1.out hle)
  replace h2 := Lib.hid (h2.out hle)
  replace h12 := Lib.hid (h12.out hle)
  clear h3 hlong
  have hco := Lib.hid fun W => covers_any 0 1073741824 s1 s2 W
  have hal := Lib.hid fun W (hb : Below w.heap.size w W) => all_any 0 1073741824 A c l W (Lib.hid (hlw.out W hb)) hlen
  have hpl := Lib.hid fun a b c' d W (h1 : -9223372036854775808 ≤ a + c' ∧ a + c' ≤ 9223372036854775807) (h2 : -9223372036854775808 ≤ b + d ∧ b + d ≤ 9223372036854775807) => plus_any a b c' d _ _ W (Lib.hid rfl) (Lib.hid rfl) h1 h2
  have hti := Lib.hid fun a b W (h1 : -9223372036854775808 ≤ a * (1000 - v) ∧ a * (1000 - v) ≤ 9223372036854775807) (h2 : -9223372036854775808 ≤ b * (1000 - v) ∧ b * (1000 - v) ≤ 9223372036854775807) => times_any a b (1000 - v) (1000 - v) _ _ W (Lib.hid rfl) (Lib.hid rfl) h1 h2
  have hby := Lib.hid fun a b W h1 h2 h3 h4 => by_any a b 1000 _ _ W (by omega) h1 h2 h3 h4 (Lib.hid rfl) (Lib.hid rfl)
  have hex := Lib.hid fun W => exactly_any (1000 - v) W
  go_enter Try.func30, Try.ntmps30
  go_wp2_with fail
  refine calls_world (fun W => Below w.heap.size w W ∧ Blk W w.heap.size 23 #[.int .i64 s1, .int .i64 s2] ∧ Blk W (w.heap.size + 1) 83 #[.int .i64 0, .int .i64 1073741824]) ⟨((Below.refl _ _).alloc (Nat.le_refl _) _).alloc (by simp) _, (Blk.new _ _ _).alloc _, blk_at (by simp)⟩ ?_
  rintro W0 ⟨hB, b0, b1⟩
  refine (hco.out _).mono ?_
  rintro e W1 ⟨r, rfl, hr, hb⟩
  replace b0 := b0.below hb b0.lt
  replace b1 := b1.below hb b1.lt
  replace hB := hB.trans (hb.mono hB.size)
  clear hb hco
  obtain ⟨x0, x1, _, _⟩ := b0.facts2
  obtain ⟨y0, y1, _, _⟩ := b1.facts2
  cases r with
  | false =>
    replace h1 := Lib.hid (h1.out (fun h => Bool.noConfusion (hr.2 h.1)))
    clear hr h0 h2 h12 hst hi hz0 hz1 hz2
    go_wp2_with fail
    go_ret2
    exact h1.out _ hB
  | true =>
    have hsp := hr.1 rfl
    clear hr
    go_wp2_with fail
    refine (hal.out _ hB).mono ?_
    rintro e W2 ⟨r, rfl, hr, hb⟩
    replace b0 := b0.below hb b0.lt
    replace hB := hB.trans (hb.mono hB.size)
    clear hb hal b1 x0 x1 y0 y1
    obtain ⟨x0, x1, _, _⟩ := b0.facts2
    cases r with
    | false =>
      replace h1 := Lib.hid (h1.out (fun h => Bool.noConfusion (hr.2 h.2)))
      clear hr h0 h2 h12 hst hi hz0 hz1 hz2
      go_wp2_with fail
      go_ret2
      exact h1.out _ hB
    | true =>
      have hok : RoomOk (s1, s2) l := ⟨hsp, hr.1 rfl⟩
      replace h0 := Lib.hid (h0.out hok)
      replace h2 := Lib.hid (h2.out hok)
      replace h12 := Lib.hid (h12.out hok)
      replace hst := Lib.hid (hst.out hok)
      clear hr h1 hsp hok
      by_cases v0 : v < 0
      · have q2 : decide (v < 0) = true := by simpa using v0
        replace h2 := Lib.hid (h2.out (fun h => by have := h.1; omega))
        clear h0 h12 hst hi hz0 hz1 hz2 v0
        go_wp2_with fail
        go_ret2
        exact h2.out _ hB
      have q2 : decide (v < 0) = false := by simpa using v0
      by_cases v1 : 1000 < v
      · have q3 : decide (1000 < v) = true := by simpa using v1
        replace h2 := Lib.hid (h2.out (fun h => by have := h.2; omega))
        clear h0 h12 hst hi hz0 hz1 hz2 v0 v1
        go_wp2_with fail
        go_ret2
        exact h2.out _ hB
      have q3 : decide (1000 < v) = false := by simpa using v1
      have hvo : VentOk v := ⟨by omega, by omega⟩
      replace h0 := Lib.hid (h0.out hvo)
      replace h12 := Lib.hid (h12.out hvo)
      replace hst := Lib.hid (hst.out hvo)
      have r1 : IntKind.i64.wrap (1000 - v) = 1000 - v := IntWalk.i64_in _ (by omega)
      clear h2 hvo v0 v1
      go_upto_region 11 with fail
      refine wp_world (fun W => Below w.heap.size w W ∧ Blk W W2.heap.size 83 #[.int .i64 s1, .int .i64 s2]) ⟨hB.alloc hB.size _, Blk.new _ _ _⟩ ?_
      have n10 : w.heap.size ≤ W2.heap.size := hB.size
      clear hB b0 x0 x1
      generalize W2.heap.size = g10 at *
      rintro W3 ⟨hB, b10⟩
      have hg0 := Lib.hid (show gasAt (1000 - v) (s1, s2) l 0 = (s1, s2) from rfl)
      have n3 := b10.lt
      go_loopw [9, 37] (fun s9 i wr => ∃ k : Nat, k ≤ l.length ∧ i = .int .i64 k ∧ wr.ownsRow (g10 + 1) 23 2 s9 k ((gasN (1000 - v) (s1, s2) l k).flatMap spanCells) ∧ Below w.heap.size w wr ∧ g10 + 1 ≤ wr.heap.size ∧ Blk wr g10 83 #[.int .i64 (gasAt (1000 - v) (s1, s2) l k).1, .int .i64 (gasAt (1000 - v) (s1, s2) l k).2] ∧ Hid (Airy (1000 - v) (s1, s2) l k)) (fun _ i _ => l.length - (intOf i).toNat)
      case atStart => exact ⟨0, Nat.zero_le _, rfl, World.ownsRow_nil _ _ _ _, hB, n3, by rw [hg0.out]; exact b10, Lib.hid fun i h => by omega⟩
      case round =>
        clear hB b10 n3 hg0
        obtain ⟨k, hk, rfl, hown, hB, n3, b10, ha⟩ := hrel
        by_cases hlt : k < l.length
        · obtain ⟨b, off, rfl, hbl, hc⟩ := (hlw.out _ hB) (by omega)
          obtain ⟨e0, e1⟩ := hc k hlt
          obtain ⟨t1, t2, t3, t4⟩ := hst.out k hlt ha.out
          have hlt' : (k : Int) < l.length := by omega
          replace h12 := Lib.hid (h12.out k hlt)
          have hsu := Lib.hid (gasN_succ (k := 1000 - v) (s := (s1, s2)) (l := l) (n := k))
          have ha2 := Lib.hid (show (gasAt (1000 - v) (s1, s2) l (k + 1)).2 ≤ 1073741824 → Airy (1000 - v) (s1, s2) l (k + 1) from fun h j hj => by
            by_cases e : j = k
            · subst e; exact h
            · exact ha.out j (by omega))
          have hu : (gasAt (1000 - v) (s1, s2) l (k + 1)).1 = ((gasAt (1000 - v) (s1, s2) l k).1 + (l[k]?.getD (0, 0)).1) * (1000 - v) / 1000 := rfl
          have hv : (gasAt (1000 - v) (s1, s2) l (k + 1)).2 = upQ (((gasAt (1000 - v) (s1, s2) l k).2 + (l[k]?.getD (0, 0)).2) * (1000 - v)) 1000 := rfl
          clear hc hbl ha
          generalize (l[k]?.getD (0, 0)).1 = c1 at *
          generalize (l[k]?.getD (0, 0)).2 = c2 at *
          generalize (gasAt (1000 - v) (s1, s2) l k).1 = p1 at *
          generalize (gasAt (1000 - v) (s1, s2) l k).2 = p2 at *
          have kp := Lib.hid fun W => hpl.out p1 p2 c1 c2 W (by omega) (by omega)
          have kt := Lib.hid fun W => hti.out (p1 + c1) (p2 + c2) W (by omega) (by omega)
          have kb := Lib.hid fun W => hby.out ((p1 + c1) * (1000 - v)) ((p2 + c2) * (1000 - v)) W (by omega) (by omega) (by omega) (by omega)
          rw [← hu, ← hv] at kb
          generalize hun : gasAt (1000 - v) (s1, s2) l (k + 1) = un at *
          obtain ⟨u1, u2⟩ := un
          replace hun := Lib.hid hun
          clear hu hv t1 t2 t3 t4 hpl hti hby hst
          simp only at *
          obtain ⟨z0, z1, _, _⟩ := b10.facts2
          go_upto_region 13 with fail
          refine wp_world (fun W => Below w.heap.size w W ∧ Blk W g10 83 #[.int .i64 p1, .int .i64 p2] ∧ Blk W wr.heap.size 23 #[.int .i64 c1, .int .i64 c2] ∧ W.ownsRow (g10 + 1) 23 2 u9 k ((gasN (1000 - v) (s1, s2) l k).flatMap spanCells)) ⟨hB.alloc hB.size _, b10.alloc _, Blk.new _ _ _, hown.alloc _⟩ ?_
          clear b10 hB e0 e1 z0 z1 hown
          generalize wr.heap.size = g12 at *
          rintro W4 ⟨hB, b10, b12, hown⟩
          obtain ⟨z0, z1, _, _⟩ := b10.facts2
          obtain ⟨e0, e1, _, _⟩ := b12.facts2
          go_wp2_with fail
          refine (kp.out _).mono ?_
          rintro e W5 ⟨rfl, hb⟩
          replace b10 := b10.below hb b10.lt
          replace hB := hB.trans (hb.mono hB.size)
          replace hown := owns_below hown hb
          clear hb kp b12 z0 z1 e0 e1
          go_wp2_with fail
          refine (hex.out _).mono ?_
          rintro e W6 ⟨rfl, hb⟩
          replace b10 := b10.below hb b10.lt
          replace hB := hB.trans (hb.mono hB.size)
          replace hown := owns_below hown hb
          clear hb hex
          go_wp2_with fail
          refine (kt.out _).mono ?_
          rintro e W7 ⟨rfl, hb⟩
          replace b10 := b10.below hb b10.lt
          replace hB := hB.trans (hb.mono hB.size)
          replace hown := owns_below hown hb
          clear hb kt
          go_wp2_with fail
          refine (kb.out _).mono ?_
          rintro e W8 ⟨rfl, hb⟩
          replace b10 := b10.below hb b10.lt
          replace hB := hB.trans (hb.mono hB.size)
          replace hown := owns_below hown hb
          clear hb kb
          obtain ⟨z0, z1, z2, z3⟩ := b10.facts2
          by_cases hm : 1073741824 < u2
          · have q4 : decide (1073741824 < u2) = true := by simpa using hm
            replace h12 := Lib.hid (h12.out hm)
            clear hsu ha2 h0 hi hz0 hz1 hz2 hm hown
            go_wp2_with fail
            go_ret2
            exact h12.out _ (belowp hB n10)
          · have q4 : decide (1073741824 < u2) = false := by simpa using hm
            replace ha2 := Lib.hid (ha2.out (by omega))
            clear h12 hm
            go_upto_region 16 with fail
            refine wp_world (fun W => Below w.heap.size w W ∧ Blk W g10 83 #[.int .i64 u1, .int .i64 u2] ∧ W.ownsRow (g10 + 1) 23 2 u9 k ((gasN (1000 - v) (s1, s2) l k).flatMap spanCells)) ⟨belowp hB n10, b10.setp, owns_far hown (by omega) _ _⟩ ?_
            clear hB b10 hown z0 z1 z2 z3
            rintro W9 ⟨hB, b10, hown⟩
            obtain ⟨z0, z1, _, _⟩ := b10.facts2
            have n9 := b10.lt
            go_wp2_with (at_builtin; refine wpList_append_own _ rfl _ _ 34 rfl (g10 + 1) 23 i0 (.agg #[.int .i64 0, .int .i64 0]) 2 16 Try.underlying34 hi.out hz0.out hz1.out hz2.out rfl (by decide) _ _ _ rfl (hown.alloc _) ⟨W9.heap.size, 0, none⟩ 1 1 [.int .i64 u1, .int .i64 u2] rfl rfl ?c1 ?c2 ?c3 ?c4 ?c5 ?_)
            case c1 =>
              intro j' u hj'
              rw [Go.WideShapes.add_plain, Nat.zero_add, (Blk.new _ _ _).cell]
              simpa using hj'
            case c2 => intro u hu'; simp at hu'; rcases hu' with rfl | rfl <;> rfl
            case c3 => unfold maxLen; omega
            case c4 => omega
            case c5 => simp; omega
            intro v' w1 hown' hgrow _
            have hob := hown.lt
            have hB' : Below w.heap.size w w1 := (hB.alloc hB.size _).grown hgrow (by simp; omega) (fun x hx => by have := (hob x hx).1; omega)
            have hsz' : g10 + 1 ≤ w1.heap.size := by have := hgrow.size; simp at this; omega
            have bx' : Blk w1 g10 83 #[.int .i64 u1, .int .i64 u2] := (hgrow.block g10 (by simp; omega) (fun hx => by have := (hob g10 hx.symm).1; omega)).trans (b10.alloc _)
            clear hob hgrow hown hB b10 z0 z1
            go_wp2
            go_roundw
            case rel => exact ⟨k + 1, by omega, by go_num, by rw [hsu.out]; simpa [spanCells] using hown', hB', hsz', by rw [hun.out]; exact bx', ha2⟩
            case measure => simp [intOf]; omega
        · have hk' : k = l.length := by omega
          subst hk'
          have hown1 : wr.ownsRow (g10 + 1) 23 2 u9 (gasN (1000 - v) (s1, s2) l l.length).length ((gasN (1000 - v) (s1, s2) l l.length).flatMap spanCells) := by rw [gasN_len]; exact hown
          obtain ⟨B, cb, rfl, _, hsp, hnw⟩ := owns_spans hown1
          rw [gasN_len] at hnw
          replace h0 := Lib.hid (h0.out ha.out wr B cb hB hsp (fun h => by obtain ⟨b, hb1, hb2⟩ := hnw h; exact ⟨b, hb1, by omega⟩))
          rw [gasN_len]
          clear h12 ha hown hown1 hsp hnw hst hi hz0 hz1 hz2
          go_wp2_with fail
          go_ret2
          exact h0.out
end Go.Proofs.Ytjcadgklamhohaa
