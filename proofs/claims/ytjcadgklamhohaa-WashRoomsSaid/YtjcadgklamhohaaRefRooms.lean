/- What the document's own package says of rooms; whether two lists of spans are the same. -/
import Derived.Test.YtjcadgklamhohaaAir
import Derived.RegionTactic
namespace Go.Proofs.Ytjcadgklamhohaa
open Go.RowKit Go.Sort
attribute [local go_sem] Oper.calm Oper.calmAt Oper.calmUpon

set_option maxHeartbeats 2000000 in
theorem rbound_any (m v u : Int) (w : World) (hm : 0 ≤ m ∧ m ≤ 1073741824) (hv : 0 ≤ v ∧ v ≤ 1000) (h : v ≠ 0 ∨ m = 0) (hu : Hid (boundR m v = u)) :
    Calls Try.prog 74 #[.int .i64 m, .int .i64 v] w fun e w' => e = .returned (.int .i64 u) ∧ Below w.heap.size w w' := by
  have hu' := hu.out
  unfold boundR at hu'
  by_cases c : m = 0
  · rw [if_pos c] at hu'
    have q1 : (m == 0) = true := by simpa using c
    subst hu'
    clear c h hu
    go_enter Try.func74, Try.ntmps74
    go_wp2
    go_ret
    exact ⟨rfl, Below.refl _ _⟩
  · rw [if_neg c] at hu'
    have q1 : (m == 0) = false := by simpa using c
    have e1 := prod_bd (B := 1000) hm.1 hm.2 (show 0 ≤ 1000 - v by omega) (by omega)
    have hup := Lib.hid fun W => rup_any (m * (1000 - v)) v u W (by omega) (by omega) (Lib.hid hu')
    have r1 : IntKind.i64.wrap (1000 - v) = 1000 - v := IntWalk.i64_in _ (by omega)
    have r2 : IntKind.i64.wrap (m * (1000 - v)) = m * (1000 - v) := IntWalk.i64_in _ (by omega)
    clear c h hu hu' e1 hm hv
    go_enter Try.func74, Try.ntmps74
    go_wp2_with fail
    refine (hup.out _).mono ?_
    rintro e W1 ⟨rfl, hb⟩
    go_wp2_with fail
    go_ret
    exact ⟨rfl, hb⟩

set_option maxHeartbeats 4000000 in
theorem rBound_any (m v : Int) (w : World) : Calls Try.prog 33 #[.int .i64 m, .int .i64 v] w (IntErr (BoundIs m v) w) := by
  have c1 := Lib.hid fun W => rin_any m 0 1073741824 W
  have c2 := Lib.hid fun W => rin_any v 0 1000 W
  have hbad := Lib.hid fun (h : ¬ (InOk 0 1073741824 m ∧ InOk 0 1000 v)) W (hB : Below w.heap.size w W) => (show IntErr (BoundIs m v) w (.returned (.tuple #[.int .i64 0, .int .i64 2])) W from ⟨_, _, rfl, .inl ⟨h, rfl, rfl⟩, hB⟩)
  have h12 := Lib.hid fun (h1 : InOk 0 1073741824 m) (h2 : InOk 0 1000 v) (h3 : v = 0) (h4 : m ≠ 0) W (hB : Below w.heap.size w W) => (show IntErr (BoundIs m v) w (.returned (.tuple #[.int .i64 0, .int .i64 12])) W from ⟨_, _, rfl, .inr ⟨⟨h1, h2⟩, .inl ⟨h3, h4, rfl, rfl⟩⟩, hB⟩)
  have h0 := Lib.hid fun (h1 : InOk 0 1073741824 m) (h2 : InOk 0 1000 v) (h3 : v ≠ 0 ∨ m = 0) W (hB : Below w.heap.size w W) => (show IntErr (BoundIs m v) w (.returned (.tuple #[.int .i64 (boundR m v), .int .i64 0])) W from ⟨_, _, rfl, .inr ⟨⟨h1, h2⟩, .inr ⟨h3, rfl, rfl⟩⟩, hB⟩)
  go_enter Try.func33, Try.ntmps33
  go_wp2_with fail
  refine (c1.out _).mono ?_
  rintro e W1 ⟨r, rfl, hr, hB⟩
  clear c1
  cases r with
  | false =>
    replace hbad := Lib.hid (hbad.out (fun h => Bool.noConfusion (hr.2 h.1)))
    clear hr h12 h0
    go_wp2_with fail
    go_ret2
    exact hbad.out _ hB
  | true =>
    have k1 := hr.1 rfl
    clear hr
    go_wp2_with fail
    refine (c2.out _).mono ?_
    rintro e W2 ⟨r, rfl, hr, hb⟩
    replace hB := hB.trans (hb.mono hB.size)
    clear hb c2
    cases r with
    | false =>
      replace hbad := Lib.hid (hbad.out (fun h => Bool.noConfusion (hr.2 h.2)))
      clear hr h12 h0
      go_wp2_with fail
      go_ret2
      exact hbad.out _ hB
    | true =>
      have k2 := hr.1 rfl
      have k1' := k1
      have k2' := k2
      obtain ⟨m0, m1⟩ := k1'
      obtain ⟨v0, v1⟩ := k2'
      replace h12 := Lib.hid (h12.out k1 k2)
      replace h0 := Lib.hid (h0.out k1 k2)
      have hbo := Lib.hid fun (h : v ≠ 0 ∨ m = 0) W => rbound_any m v _ W k1 k2 h (Lib.hid rfl)
      clear hr k1 k2 hbad
      by_cases hv : v = 0
      · have q1 : (v == 0) = true := by simpa using hv
        by_cases hm : 0 < m
        · have q2 : decide (0 < m) = true := by simpa using hm
          replace h12 := Lib.hid (h12.out hv (by omega))
          clear h0 hbo hv hm m0 m1 v0 v1
          go_wp2_with fail
          go_ret2
          exact h12.out _ hB
        · have q2 : decide (0 < m) = false := by simpa using hm
          replace h0 := Lib.hid (h0.out (.inr (by omega)))
          replace hbo := Lib.hid (hbo.out (.inr (by omega)))
          clear h12 hv hm m0 m1 v0 v1
          go_wp2_with fail
          refine (hbo.out _).mono ?_
          rintro e W3 ⟨rfl, hb⟩
          go_wp2_with fail
          go_ret2
          exact h0.out _ (hB.trans (hb.mono hB.size))
      · have q1 : (v == 0) = false := by simpa using hv
        replace h0 := Lib.hid (h0.out (.inl hv))
        replace hbo := Lib.hid (hbo.out (.inl hv))
        clear h12 hv m0 m1 v0 v1
        go_wp2_with fail
        refine (hbo.out _).mono ?_
        rintro e W3 ⟨rfl, hb⟩
        go_wp2_with fail
        go_ret2
        exact h0.out _ (hB.trans (hb.mono hB.size))

set_option maxHeartbeats 4000000 in
set_option maxRecDepth 100000 in
theorem rVent_any (m l : Int) (w : World) : Calls Try.prog 35 #[.int .i64 m, .int .i64 l] w (IntErr (VentIs m l) w) := by
  have c1 := Lib.hid fun W => rin_any m 0 1073741824 W
  have c2 := Lib.hid fun W => rin_any l 0 1073741824 W
  have hbad := Lib.hid fun (h : ¬ (InOk 0 1073741824 m ∧ InOk 0 1073741824 l)) W (hB : Below w.heap.size w W) => (show IntErr (VentIs m l) w (.returned (.tuple #[.int .i64 0, .int .i64 2])) W from ⟨_, _, rfl, .inl ⟨h, rfl, rfl⟩, hB⟩)
  have hyes := Lib.hid fun (h1 : InOk 0 1073741824 m) (h2 : InOk 0 1073741824 l) (k : Nat) (hk : (k : Int) ≤ 1000) (h : Enough m l k) (hno : ∀ i : Int, 0 ≤ i → i < k → ¬ Enough m l i) W (hB : Below w.heap.size w W) => (show IntErr (VentIs m l) w (.returned (.tuple #[.int .i64 (k : Nat), .int .i64 0])) W from ⟨_, _, rfl, .inr ⟨⟨h1, h2⟩, .inr ⟨rfl, by omega, hk, h, hno⟩⟩, hB⟩)
  have hno := Lib.hid fun (h1 : InOk 0 1073741824 m) (h2 : InOk 0 1073741824 l) (hno : ∀ i : Int, 0 ≤ i → i < (1001 : Nat) → ¬ Enough m l i) W (hB : Below w.heap.size w W) => (show IntErr (VentIs m l) w (.returned (.tuple #[.int .i64 0, .int .i64 12])) W from ⟨_, _, rfl, .inr ⟨⟨h1, h2⟩, .inl ⟨rfl, rfl, fun i h0 h1 => hno i h0 (by omega)⟩⟩, hB⟩)
  go_enter Try.func35, Try.ntmps35
  go_wp2_with fail
  refine (c1.out _).mono ?_
  rintro e W1 ⟨r, rfl, hr, hB⟩
  clear c1
  cases r with
  | false =>
    replace hbad := Lib.hid (hbad.out (fun h => Bool.noConfusion (hr.2 h.1)))
    clear hr hyes hno
    go_wp2_with fail
    go_ret2
    exact hbad.out _ hB
  | true =>
    have k1 := hr.1 rfl
    clear hr
    go_wp2_with fail
    refine (c2.out _).mono ?_
    rintro e W2 ⟨r, rfl, hr, hb⟩
    replace hB := hB.trans (hb.mono hB.size)
    clear hb c2
    cases r with
    | false =>
      replace hbad := Lib.hid (hbad.out (fun h => Bool.noConfusion (hr.2 h.2)))
      clear hr hyes hno
      go_wp2_with fail
      go_ret2
      exact hbad.out _ hB
    | true =>
      have k2 := hr.1 rfl
      obtain ⟨m0, m1⟩ := id k1
      obtain ⟨l0, l1⟩ := id k2
      replace hyes := Lib.hid (hyes.out k1 k2)
      replace hno := Lib.hid (hno.out k1 k2)
      have hbo := Lib.hid fun (v : Int) (hv : 0 ≤ v ∧ v ≤ 1000) (h : v ≠ 0 ∨ m = 0) u hu W => rbound_any m v u W k1 hv h hu
      have hbb := Lib.hid fun (v : Int) (hv : 0 ≤ v ∧ v ≤ 1000) (h : v ≠ 0 ∨ m = 0) => bound_bd k1 hv h
      clear hr k1 k2 hbad
      go_upto_region 4 with fail
      go_loopw [6] (fun i wr => ∃ k : Nat, k ≤ 1001 ∧ i = .int .i64 k ∧ Below w.heap.size w wr ∧ Hid (∀ i : Int, 0 ≤ i → i < k → ¬ Enough m l i)) (fun i _ => 1001 - (intOf i).toNat)
      case atStart => exact ⟨0, by omega, rfl, hB, Lib.hid fun i h0 h1 => by omega⟩
      case round =>
        clear hB
        obtain ⟨k, hk, rfl, hB, hd⟩ := hrel
        by_cases hlt : k < 1001
        · have hlt' : decide ((k : Int) ≤ 1000) = true := by simp; omega
          have hd2 := Lib.hid (show ¬ Enough m l k → ∀ i : Int, 0 ≤ i → i < ((k + 1 : Nat) : Int) → ¬ Enough m l i from fun h i h0 h1 => by
            by_cases e : i = k
            · subst e; exact h
            · exact hd.out i h0 (by omega))
          replace hyes := Lib.hid (fun h => hyes.out k (by omega) h hd.out)
          clear hno
          by_cases hm : 0 < m
          · have q1 : decide (0 < m) = true := by simpa using hm
            by_cases hk0 : k = 0
            · subst hk0
              replace hd2 := Lib.hid (hd2.out (fun h => by have := h.1; omega))
              clear hyes hbo hbb hm
              go_wp2_with fail
              go_roundw
              case rel => exact ⟨1, by omega, by go_num, hB, hd2⟩
              case measure => simp [intOf]
            · have q2 : ((k : Int) == 0) = false := by simp; omega
              have hb1 := hbb.out k (by omega) (.inl (by omega))
              obtain ⟨u, hu⟩ : ∃ u, boundR m k = u := ⟨_, rfl⟩
              have hb2 := Lib.hid fun W => hbo.out k (by omega) (.inl (by omega)) u (Lib.hid hu) W
              rw [hu] at hb1
              have r1 : IntKind.i64.wrap (u + m) = u + m := IntWalk.i64_in _ (by omega)
              by_cases hle : u + m ≤ l
              · have q5 : decide (u + m ≤ l) = true := by simpa using hle
                replace hyes := Lib.hid (hyes.out ⟨.inl (by omega), by rw [hu]; exact hle⟩)
                clear hd hd2 hu hle hb1 hbb hbo hm hk0
                go_wp2_with fail
                refine (hb2.out _).mono ?_
                rintro e W3 ⟨rfl, hb⟩
                go_wp2_with fail
                go_ret2
                exact hyes.out _ (hB.trans (hb.mono hB.size))
              · have q5 : decide (u + m ≤ l) = false := by simpa using hle
                replace hd2 := Lib.hid (hd2.out (fun h => by have := h.2; rw [hu] at this; omega))
                clear hd hyes hu hle hb1 hbb hbo hm hk0
                go_wp2_with fail
                refine (hb2.out _).mono ?_
                rintro e W3 ⟨rfl, hb⟩
                replace hB := hB.trans (hb.mono hB.size)
                go_wp2_with fail
                go_roundw
                case rel => exact ⟨k + 1, by omega, by go_num, hB, hd2⟩
                case measure => simp [intOf]; omega
          · have q1 : decide (0 < m) = false := by simpa using hm
            have hm0 : m = 0 := by omega
            have hb1 := hbb.out k (by omega) (.inr hm0)
            obtain ⟨u, hu⟩ : ∃ u, boundR m k = u := ⟨_, rfl⟩
            have hb2 := Lib.hid fun W => hbo.out k (by omega) (.inr hm0) u (Lib.hid hu) W
            rw [hu] at hb1
            have r1 : IntKind.i64.wrap (u + m) = u + m := IntWalk.i64_in _ (by omega)
            by_cases hle : u + m ≤ l
            · have q5 : decide (u + m ≤ l) = true := by simpa using hle
              replace hyes := Lib.hid (hyes.out ⟨.inr hm0, by rw [hu]; exact hle⟩)
              clear hd hd2 hu hle hb1 hbb hbo hm hm0
              go_wp2_with fail
              refine (hb2.out _).mono ?_
              rintro e W3 ⟨rfl, hb⟩
              go_wp2_with fail
              go_ret2
              exact hyes.out _ (hB.trans (hb.mono hB.size))
            · have q5 : decide (u + m ≤ l) = false := by simpa using hle
              replace hd2 := Lib.hid (hd2.out (fun h => by have := h.2; rw [hu] at this; omega))
              clear hd hyes hu hle hb1 hbb hbo hm hm0
              go_wp2_with fail
              refine (hb2.out _).mono ?_
              rintro e W3 ⟨rfl, hb⟩
              replace hB := hB.trans (hb.mono hB.size)
              go_wp2_with fail
              go_roundw
              case rel => exact ⟨k + 1, by omega, by go_num, hB, hd2⟩
              case measure => simp [intOf]; omega
        · have hk' : k = 1001 := by omega
          subst hk'
          replace hno := Lib.hid (hno.out hd.out)
          clear hd hyes
          go_wp2_with fail
          go_ret2
          exact hno.out _ hB

set_option maxHeartbeats 16000000 in
set_option maxRecDepth 100000 in
theorem rAir_any (s1 s2 : Int) (A : Option Addr) (c : Nat) (l : List (Int × Int)) (v : Int) (w : World) (hl : Hid (SpansAt w A l)) (hlen : l.length ≤ 140737488355328) :
    Calls Try.prog 31 #[.agg #[.int .i64 s1, .int .i64 s2], .slice A l.length c, .int .i64 v] w (SpansErr (AirIs (s1, s2) l v) w) := by
  have h3 := Lib.hid fun (h : 200 < l.length) W (hB : Below w.heap.size w W) => SpansErr.none (p := AirIs (s1, s2) l v) (k := 3) (.inl ⟨h, rfl, rfl⟩) hB
  have h1 := Lib.hid fun (h : l.length ≤ 200) (h' : ¬ RoomOk (s1, s2) l) W (hB : Below w.heap.size w W) => SpansErr.none (p := AirIs (s1, s2) l v) (k := 1) (.inr ⟨h, .inl ⟨h', rfl, rfl⟩⟩) hB
  have h2 := Lib.hid fun (h : l.length ≤ 200) (h' : RoomOk (s1, s2) l) (h'' : ¬ VentOk v) W (hB : Below w.heap.size w W) => SpansErr.none (p := AirIs (s1, s2) l v) (k := 2) (.inr ⟨h, .inr ⟨h', .inl ⟨h'', rfl, rfl⟩⟩⟩) hB
  have h12 := Lib.hid fun (h : l.length ≤ 200) (h' : RoomOk (s1, s2) l) (h'' : VentOk v) (n : Nat) (hn : n < l.length) (hm : 1073741824 < (gasAt (1000 - v) (s1, s2) l (n + 1)).2) W (hB : Below w.heap.size w W) =>
    SpansErr.none (p := AirIs (s1, s2) l v) (k := 12) (.inr ⟨h, .inr ⟨h', .inr ⟨h'', .inl ⟨fun ha => by have := ha n hn; omega, rfl, rfl⟩⟩⟩⟩) hB
  have h0 := Lib.hid fun (h : l.length ≤ 200) (h' : RoomOk (s1, s2) l) (h'' : VentOk v) (ha : Airy (1000 - v) (s1, s2) l l.length) W (B : Option Addr) (cb : Nat) (hB : Below w.heap.size w W) (hs : SpansAt W B (gasN (1000 - v) (s1, s2) l l.length)) (hn : 0 < l.length → ∃ b, B = some ⟨b, 0, none⟩ ∧ w.heap.size ≤ b) =>
    (show SpansErr (AirIs (s1, s2) l v) w (.returned (.tuple #[.slice B l.length cb, .int .i64 0])) W from ⟨_, _, _, _, by rw [gasN_len], .inr ⟨h, .inr ⟨h', .inr ⟨h'', .inr ⟨ha, rfl, rfl⟩⟩⟩⟩, hs, fun h0 => hn (by rwa [gasN_len] at h0), hB⟩)
  have hlw := Lib.hid fun W (hb : Below w.heap.size w W) => hl.out.later hb
  have hst := Lib.hid fun (h' : RoomOk (s1, s2) l) (h'' : VentOk v) n hn ha => gas_step (k := 1000 - v) ⟨by have := h''.2; omega, by have := h''.1; omega⟩ h' n hn ha
  clear hl
  obtain ⟨i0, hi, hz0, hz1, hz2⟩ := info_parts info_span
  replace hz0 := Lib.hid hz0
  replace hz1 := Lib.hid hz1
  replace hz2 := Lib.hid hz2
  replace hi := Lib.hid hi
  by_cases hlong : 200 < l.length
  · have q1 : (200 : Int) < l.length := by omega
    replace h3 := Lib.hid (h3.out hlong)
    clear h0 h1 h2 h12 hst hi hz0 hz1 hz2 hlw
    go_enter Try.func31, Try.ntmps31
    go_wp2
    go_ret2
    exact h3.out _ ((Below.refl _ _).alloc (Nat.le_refl _) _)
  have q1 : ¬ (200 : Int) < l.length := by omega
  have hle : l.length ≤ 200 := by omega
  replace h0 := Lib.hid (h0.out hle)
  replace h1 := Lib.hid (h1.out hle)
  replace h2 := Lib.hid (h2.out hle)
  replace h12 := Lib.hid (h12.out hle)
  clear h3 hlong
  have hco := Lib.hid fun W => rwithin_any 0 1073741824 s1 s2 W
  have hwi := Lib.hid fun a b W => rwithin_any 0 1073741824 a b W
  have hin := Lib.hid fun W => rin_any v 0 1000 W
  have hpl := Lib.hid fun a b c' d W (h1 : -9223372036854775808 ≤ a + c' ∧ a + c' ≤ 9223372036854775807) (h2 : -9223372036854775808 ≤ b + d ∧ b + d ≤ 9223372036854775807) => rplus_any a b c' d _ _ W (Lib.hid rfl) (Lib.hid rfl) h1 h2
  have hpa := Lib.hid fun a b W h1 h2 => rpart_any a b (1000 - v) (1000 - v) _ _ W (Lib.hid rfl) (Lib.hid rfl) h1 h2
  go_enter Try.func31, Try.ntmps31
  go_wp2_with fail
  refine calls_world (fun W => Below w.heap.size w W ∧ Blk W w.heap.size 23 #[.int .i64 s1, .int .i64 s2]) ⟨(Below.refl _ _).alloc (Nat.le_refl _) _, Blk.new _ _ _⟩ ?_
  rintro W0 ⟨hB, b0⟩
  refine (hco.out _).mono ?_
  rintro e W1 ⟨r, rfl, hr, hb⟩
  replace b0 := b0.below hb b0.lt
  replace hB := hB.trans (hb.mono hB.size)
  clear hb hco
  cases r with
  | false =>
    replace h1 := Lib.hid (h1.out (fun h => Bool.noConfusion (hr.2 h.1)))
    clear hr h0 h2 h12 hst hi hz0 hz1 hz2
    go_wp2_with fail
    go_ret2
    exact h1.out _ hB
  | true =>
    have hsp := hr.1 rfl
    clear hr
    go_upto_region 6 with fail
    go_loopw [8] (fun i wr => ∃ k : Nat, k ≤ l.length ∧ i = .int .i64 k ∧ Below w.heap.size w wr ∧ Blk wr w.heap.size 23 #[.int .i64 s1, .int .i64 s2] ∧ Hid (∀ j, j < k → SpIn 0 1073741824 (l[j]?.getD (0, 0)).1 (l[j]?.getD (0, 0)).2)) (fun i _ => l.length - (intOf i).toNat)
    case atStart => exact ⟨0, Nat.zero_le _, rfl, hB, b0, Lib.hid fun j h => by omega⟩
    case round =>
      clear hB b0
      obtain ⟨k, hk, rfl, hB, b0, hd⟩ := hrel
      by_cases hlt : k < l.length
      · obtain ⟨b, off, rfl, hbl, hc⟩ := (hlw.out _ hB) (by omega)
        obtain ⟨e0, e1⟩ := hc k hlt
        have hlt' : (k : Int) < l.length := by omega
        have hd2 := Lib.hid (show SpIn 0 1073741824 (l[k]?.getD (0, 0)).1 (l[k]?.getD (0, 0)).2 → ∀ j, j < k + 1 → SpIn 0 1073741824 (l[j]?.getD (0, 0)).1 (l[j]?.getD (0, 0)).2 from fun h j hj => by
          by_cases e : j = k
          · subst e; exact h
          · exact hd.out j (by omega))
        replace h1 := Lib.hid (fun (h : ¬ SpIn 0 1073741824 (l[k]?.getD (0, 0)).1 (l[k]?.getD (0, 0)).2) => h1.out (fun h' => h (h'.2 k hlt)))
        clear hc hbl hd h0 h2 h12 hst
        generalize (l[k]?.getD (0, 0)).1 = c1 at *
        generalize (l[k]?.getD (0, 0)).2 = c2 at *
        go_wp2_with fail
        refine (hwi.out _ _ _).mono ?_
        rintro e W2 ⟨r, rfl, hr, hb⟩
        replace b0 := b0.below hb b0.lt
        replace hB := hB.trans (hb.mono hB.size)
        clear hb hwi e0 e1
        cases r with
        | false =>
          replace h1 := Lib.hid (h1.out (fun h => Bool.noConfusion (hr.2 h)))
          clear hr hd2 hi hz0 hz1 hz2
          go_wp2_with fail
          go_ret2
          exact h1.out _ hB
        | true =>
          replace hd2 := Lib.hid (hd2.out (hr.1 rfl))
          clear hr h1 hi hz0 hz1 hz2
          go_wp2_with fail
          go_roundw
          case rel => exact ⟨k + 1, by omega, by go_num, hB, b0, hd2⟩
          case measure => simp [intOf]; omega
      · have hk' : k = l.length := by omega
        subst hk'
        have hok : RoomOk (s1, s2) l := ⟨hsp, hd.out⟩
        replace h0 := Lib.hid (h0.out hok)
        replace h2 := Lib.hid (h2.out hok)
        replace h12 := Lib.hid (h12.out hok)
        replace hst := Lib.hid (hst.out hok)
        clear h1 hd hsp hok hwi
        go_wp2_with fail
        refine (hin.out _).mono ?_
        rintro e W3 ⟨r, rfl, hr, hb⟩
        replace b0 := b0.below hb b0.lt
        replace hB := hB.trans (hb.mono hB.size)
        clear hb hin
        cases r with
        | false =>
          replace h2 := Lib.hid (h2.out (fun h => Bool.noConfusion (hr.2 h)))
          clear hr h0 h12 hst hi hz0 hz1 hz2
          go_wp2_with fail
          go_ret2
          exact h2.out _ hB
        | true =>
          have hvo : VentOk v := hr.1 rfl
          replace h0 := Lib.hid (h0.out hvo)
          replace h12 := Lib.hid (h12.out hvo)
          replace hst := Lib.hid (hst.out hvo)
          obtain ⟨v0, v1⟩ := hvo
          have r1 : IntKind.i64.wrap (1000 - v) = 1000 - v := IntWalk.i64_in _ (by omega)
          clear h2 hr v0 v1
          have hg0 := Lib.hid (show gasAt (1000 - v) (s1, s2) l 0 = (s1, s2) from rfl)
          have n3 := b0.lt
          go_upto_region 14 with fail
          go_loopw [9, 10] (fun s9 i wr => ∃ k : Nat, k ≤ l.length ∧ i = .int .i64 k ∧ wr.ownsRow (w.heap.size + 1) 23 2 s9 k ((gasN (1000 - v) (s1, s2) l k).flatMap spanCells) ∧ Below w.heap.size w wr ∧ w.heap.size + 1 ≤ wr.heap.size ∧ Blk wr w.heap.size 23 #[.int .i64 (gasAt (1000 - v) (s1, s2) l k).1, .int .i64 (gasAt (1000 - v) (s1, s2) l k).2] ∧ Hid (Airy (1000 - v) (s1, s2) l k)) (fun _ i _ => l.length - (intOf i).toNat)
          case atStart => exact ⟨0, Nat.zero_le _, rfl, World.ownsRow_nil _ _ _ _, hB, n3, by rw [hg0.out]; exact b0, Lib.hid fun i h => by omega⟩
          case round =>
            clear hB b0 n3 hg0
            obtain ⟨k, hk, rfl, hown, hB, n3, b0, ha⟩ := hrel
            by_cases hlt : k < l.length
            · obtain ⟨b, off, rfl, hbl, hc⟩ := (hlw.out _ hB) (by omega)
              obtain ⟨e0, e1⟩ := hc k hlt
              obtain ⟨t1, t2, t3, t4⟩ := hst.out k hlt ha.out
              have hlt' : (k : Int) < l.length := by omega
              replace h12 := Lib.hid (h12.out k hlt)
              have hsu := Lib.hid (gasN_succ (k := 1000 - v) (s := (s1, s2)) (l := l) (n := k))
              have ha2 := Lib.hid (show (gasAt (1000 - v) (s1, s2) l (k + 1)).2 ≤ 1073741824 → Airy (1000 - v) (s1, s2) l (k + 1) from fun h j hj => by
                by_cases e : j = k
                · subst e; exact h
                · exact ha.out j (by omega))
              have hu : (gasAt (1000 - v) (s1, s2) l (k + 1)).1 = ((gasAt (1000 - v) (s1, s2) l k).1 + (l[k]?.getD (0, 0)).1) * (1000 - v) / 1000 := rfl
              have hv : (gasAt (1000 - v) (s1, s2) l (k + 1)).2 = upQ (((gasAt (1000 - v) (s1, s2) l k).2 + (l[k]?.getD (0, 0)).2) * (1000 - v)) 1000 := rfl
              clear hc hbl ha
              generalize (l[k]?.getD (0, 0)).1 = c1 at *
              generalize (l[k]?.getD (0, 0)).2 = c2 at *
              generalize (gasAt (1000 - v) (s1, s2) l k).1 = p1 at *
              generalize (gasAt (1000 - v) (s1, s2) l k).2 = p2 at *
              have kp := Lib.hid fun W => hpl.out p1 p2 c1 c2 W (by omega) (by omega)
              have kt := Lib.hid fun W => hpa.out (p1 + c1) (p2 + c2) W (by omega) (by omega)
              rw [← hu, ← hv] at kt
              generalize hun : gasAt (1000 - v) (s1, s2) l (k + 1) = un at *
              obtain ⟨u1, u2⟩ := un
              replace hun := Lib.hid hun
              clear hu hv t1 t2 t3 t4 hpl hpa hst
              simp only at *
              obtain ⟨z0, z1, z2, z3⟩ := b0.facts2
              have z0' := fun d os => cell_regrown z0 d os
              have z1' := fun d os => cell_regrown z1 d os
              have e0' := fun d os => cell_regrown e0 d os
              have e1' := fun d os => cell_regrown e1 d os
              go_upto_region 16 with fail
              refine wp_region_below_tail 12 (by kernel_rfl) (by kernel_rfl) ?_
              simp only [List.take_succ_cons, List.take_zero, List.drop_succ_cons, List.drop_zero]
              repeat (quiet_step (fail))
              quiet_step (first | (go_at_call 72; exact quiet_call (fun W1 _ => kp.out W1)))
              repeat (quiet_step (fail))
              quiet_step (first | (go_at_call 71; exact quiet_call (fun W1 _ => kt.out W1)))
              repeat (quiet_step (fail))
              refine wpQuiet_nil ?_
              intro _ hw'
              obtain ⟨⟨dq, osq⟩, hw''⟩ := hw'
              subst hw''
              have hb := below_regrown wr dq osq
              replace b0 := b0.below hb b0.lt
              replace hown := owns_below hown hb
              replace hB := hB.trans (hb.mono hB.size)
              clear hb z0 z1 z2 z3 z0' z1' e0 e1 e0' e1' kp kt
              generalize grow (redrawn wr dq) osq = W4 at *
              obtain ⟨z0, z1, z2, z3⟩ := b0.facts2
              go_upto_region 17 with fail
              refine wp_world (fun W => Below w.heap.size w W ∧ Blk W w.heap.size 23 #[.int .i64 u1, .int .i64 u2] ∧ W.ownsRow (w.heap.size + 1) 23 2 u9 k ((gasN (1000 - v) (s1, s2) l k).flatMap spanCells)) ⟨belowp hB (Nat.le_refl _), b0.setp, owns_far hown (by omega) _ _⟩ ?_
              clear hB b0 hown z0 z1 z2 z3
              rintro W9 ⟨hB, b0, hown⟩
              obtain ⟨z0, z1, _, _⟩ := b0.facts2
              have n9 := b0.lt
              by_cases hm : 1073741824 < u2
              · have q4 : decide (1073741824 < u2) = true := by simpa using hm
                replace h12 := Lib.hid (h12.out hm)
                clear hsu ha2 h0 hi hz0 hz1 hz2 hm hown
                go_wp2_with fail
                go_ret2
                exact h12.out _ hB
              · have q4 : decide (1073741824 < u2) = false := by simpa using hm
                replace ha2 := Lib.hid (ha2.out (by omega))
                clear h12 hm
                go_wp2_with (at_builtin; refine wpList_append_own _ rfl _ _ 34 rfl (w.heap.size + 1) 23 i0 (.agg #[.int .i64 0, .int .i64 0]) 2 16 Try.underlying34 hi.out hz0.out hz1.out hz2.out rfl (by decide) _ _ _ rfl (hown.alloc _) ⟨W9.heap.size, 0, none⟩ 1 1 [.int .i64 u1, .int .i64 u2] rfl rfl ?c1 ?c2 ?c3 ?c4 ?c5 ?_)
                case c1 =>
                  intro j' u hj'
                  rw [Go.WideShapes.add_plain, Nat.zero_add, (Blk.new _ _ _).cell]
                  simpa using hj'
                case c2 => intro u hu'; simp at hu'; rcases hu' with rfl | rfl <;> rfl
                case c3 => unfold maxLen; omega
                case c4 => omega
                case c5 => simp; omega
                intro v' w1 hown' hgrow _
                have hob := hown.lt
                have hB' : Below w.heap.size w w1 := (hB.alloc hB.size _).grown hgrow (by simp; omega) (fun x hx => by have := (hob x hx).1; omega)
                have hsz' : w.heap.size + 1 ≤ w1.heap.size := by have := hgrow.size; simp at this; omega
                have bx' : Blk w1 w.heap.size 23 #[.int .i64 u1, .int .i64 u2] := (hgrow.block w.heap.size (by simp; omega) (fun hx => by have := (hob w.heap.size hx.symm).1; omega)).trans (b0.alloc _)
                clear hob hgrow hown hB b0 z0 z1
                go_wp2
                go_roundw
                case rel => exact ⟨k + 1, by omega, by go_num, by rw [hsu.out]; simpa [spanCells] using hown', hB', hsz', by rw [hun.out]; exact bx', ha2⟩
                case measure => simp [intOf]; omega
            · have hk' : k = l.length := by omega
              subst hk'
              have hown1 : wr.ownsRow (w.heap.size + 1) 23 2 u9 (gasN (1000 - v) (s1, s2) l l.length).length ((gasN (1000 - v) (s1, s2) l l.length).flatMap spanCells) := by rw [gasN_len]; exact hown
              obtain ⟨B, cb, rfl, _, hsp, hnw⟩ := owns_spans hown1
              rw [gasN_len] at hnw
              replace h0 := Lib.hid (h0.out ha.out wr B cb hB hsp (fun h => by obtain ⟨b, hb1, hb2⟩ := hnw h; exact ⟨b, hb1, by omega⟩))
              rw [gasN_len]
              clear h12 ha hown hown1 hsp hnw hst hi hz0 hz1 hz2
              go_wp2_with fail
              go_ret2
              exact h0.out

set_option maxHeartbeats 4000000 in
set_option maxRecDepth 100000 in
theorem sameSpans_any (A B : Option Addr) (ca cb : Nat) (l : List (Int × Int)) (w : World) (ha : Hid (SpansAt w A l)) (hb : Hid (SpansAt w B l)) (hlen : l.length ≤ 140737488355328) :
    Calls Try.prog 36 #[.slice A l.length ca, .slice B l.length cb] w fun e w' => e = .returned (.bool true) ∧ Below w.heap.size w w' := by
  go_enter Try.func36, Try.ntmps36
  go_upto_region 4 with fail
  go_loopw [5] (fun i wr => ∃ k : Nat, k ≤ l.length ∧ i = .int .i64 k ∧ Below w.heap.size w wr) (fun i _ => l.length - (intOf i).toNat)
  case atStart => exact ⟨0, Nat.zero_le _, rfl, Below.refl _ _⟩
  case round =>
    obtain ⟨k, hk, rfl, hB⟩ := hrel
    by_cases hlt : k < l.length
    · obtain ⟨b, off, rfl, hbl, hc⟩ := (ha.out.later hB) (by omega)
      obtain ⟨b', off', rfl, hbl', hc'⟩ := (hb.out.later hB) (by omega)
      obtain ⟨e0, e1⟩ := hc k hlt
      obtain ⟨f0, f1⟩ := hc' k hlt
      have hlt' : (k : Int) < l.length := by omega
      clear hc hc' ha hb
      generalize (l[k]?.getD (0, 0)).1 = c1 at *
      generalize (l[k]?.getD (0, 0)).2 = c2 at *
      have e0' := fun d os => cell_regrown e0 d os
      have e1' := fun d os => cell_regrown e1 d os
      have f0' := fun d os => cell_regrown f0 d os
      have f1' := fun d os => cell_regrown f1 d os
      go_upto_region 6 with fail
      refine wp_region_quiet_below (by kernel_rfl) (by kernel_rfl) ?_
      repeat (quiet_step (fail))
      refine wpQuiet_nil ?_
      intro _ hw'
      obtain ⟨⟨dq, osq⟩, hw''⟩ := hw'
      subst hw''
      have hb := below_regrown wr dq osq
      replace hB := hB.trans (hb.mono hB.size)
      clear hb e0 e1 f0 f1 e0' e1' f0' f1'
      generalize grow (redrawn wr dq) osq = W4 at *
      go_wp2_with fail
      go_roundw
      case rel => exact ⟨k + 1, by omega, by go_num, hB⟩
      case measure => simp [intOf]; omega
    · have hk' : k = l.length := by omega
      subst hk'
      go_wp2_with fail
      go_ret
      exact ⟨rfl, hB⟩
end Go.Proofs.Ytjcadgklamhohaa
