/- StrengthSums returns true, whatever the parts and the numbers are. -/
import Derived.Test.YtcghafdemklnnaaSumsMath
import Derived.Laws.AppendOwn
import Derived.OwnWalk
namespace Go.Proofs.Ytcghafdemklnnaa
open Go.RowKit Go.Sort
attribute [local go_sem] Oper.calm Oper.calmAt Oper.calmUpon

/-- the slice (nil let in) holds these words of 32 bits -/
def WordsAt (w : World) (A : Option Addr) (us : List Int) : Prop := 0 < us.length → ∃ b off, A = some ⟨b, off, none⟩ ∧ b < w.heap.size ∧ ∀ j, j < us.length → w.cell? ⟨b, off + j, none⟩ = some (.int .u32 (us[j]?.getD 0))
theorem WordsAt.below {w w' : World} {A : Option Addr} {us : List Int} (h : WordsAt w A us) (hb : Below w.heap.size w w') : WordsAt w' A us := fun h0 => by
  obtain ⟨b, off, h1, h2, h3⟩ := h h0
  exact ⟨b, off, h1, Nat.lt_of_lt_of_le h2 hb.size, fun j hj => (hb.cell (p := ⟨b, _, none⟩) h2).trans (h3 j hj)⟩

set_option maxHeartbeats 1000000 in
set_option maxRecDepth 100000 in
theorem has_any (lo hi n : Int) (w : World) :
    Calls Try.prog 40 #[.agg #[.int .i64 lo, .int .i64 hi], .int .i64 n] w (SomeBool (lo ≤ n ∧ n ≤ hi) w) := by
  by_cases c1 : lo ≤ n
  · have c1' : decide (lo ≤ n) = true := by simpa using c1
    by_cases c2 : n ≤ hi
    · have c2' : decide (n ≤ hi) = true := by simpa using c2
      go_enter Try.func40, Try.ntmps40
      go_wp2
      go_ret
      exact SomeBool.yes ⟨c1, c2⟩ ((Below.refl _ _).alloc (Nat.le_refl _) _)
    · have c2' : decide (n ≤ hi) = false := by simpa using c2
      go_enter Try.func40, Try.ntmps40
      go_wp2
      go_ret
      exact SomeBool.no (fun h => by omega) ((Below.refl _ _).alloc (Nat.le_refl _) _)
  · have c1' : decide (lo ≤ n) = false := by simpa using c1
    go_enter Try.func40, Try.ntmps40
    go_wp2
    go_ret
    exact SomeBool.no (fun h => by omega) ((Below.refl _ _).alloc (Nat.le_refl _) _)

def partCells (p : PartV) : List Value := [.int .i64 p.al, .int .i64 p.ah, .int .i64 p.sl, .int .i64 p.sh]
theorem info_part : (Try.prog.info? 41).map (fun i => (i.zero, i.size, i.bytes)) = some (some (.agg #[.int .i64 0, .int .i64 0, .int .i64 0, .int .i64 0]), 4, 32) := by kernel_rfl

theorem cells_get {l : List PartV} {i : Nat} {p : PartV} (hp : l[i]? = some p) (c : Nat) (hc : c < 4) : (l.flatMap partCells)[i * 4 + c]? = (partCells p)[c]? := by
  induction l generalizing i with
  | nil => simp at hp
  | cons q l ih =>
    rw [List.flatMap_cons]
    cases i with
    | zero =>
      simp only [List.getElem?_cons_zero, Option.some.injEq] at hp
      subst hp
      rw [List.getElem?_append_left (by simp [partCells]; omega)]
      simp
    | succ i =>
      rw [List.getElem?_cons_succ] at hp
      rw [List.getElem?_append_right (by simp [partCells]; omega), ← ih hp]
      congr 1
      simp [partCells]
      omega
theorem owns_parts {w : World} {B : Nat} {v : Value} {l : List PartV} (h : w.ownsRow B 41 4 v l.length (l.flatMap partCells)) : ∃ (A : Option Addr) (c : Nat), v = .slice A l.length c ∧ PartsAt w A l := by
  have h' := h
  rcases h.2 with ⟨rfl, h0⟩ | ⟨g, cap, cur, rfl, hb, hg, hn, hm, hs, ht⟩
  · exact ⟨none, 0, by rw [h0], fun h1 => by omega⟩
  · refine ⟨_, _, rfl, fun _ => ⟨g, 0, rfl, (Array.getElem?_eq_some_iff.1 hg).1, fun i p hp => ?_⟩⟩
    have hc := h'.cells (g := g) rfl
    have k : ∀ c u, c < 4 → (partCells p)[c]? = some u → w.cell? ⟨g, 0 + i * 4 + c, none⟩ = some u := fun c u hc4 hu => by
      have := hc (i * 4 + c) u ((cells_get hp c hc4).trans hu)
      rw [Go.WideShapes.add_plain] at this
      simpa [Nat.add_assoc] using this
    exact ⟨by simpa using k 0 _ (by omega) rfl, k 1 _ (by omega) rfl, k 2 _ (by omega) rfl, k 3 _ (by omega) rfl⟩

set_option maxHeartbeats 16000000 in
set_option maxRecDepth 100000 in
theorem law_sums (A : Option Addr) (c : Nat) (ps : List PartV) (s : Int) (uA : Option Addr) (uc : Nat) (us : List Int) (tn : Int) (w : World) (hn : ps.length ≤ 140737488355328) (hp : PartsAt w A ps) (hun : us.length ≤ 140737488355328) (hu : WordsAt w uA us) (hub : ∀ u ∈ us, 0 ≤ u ∧ u ≤ 4294967295)
    (s1 : -9223372036854775808 ≤ s) (s2 : s ≤ 9223372036854775807) (t1 : 0 ≤ tn) (t2 : tn ≤ 255) :
    Calls Try.prog 11 #[.slice A ps.length c, .int .i64 s, .slice uA us.length uc, .int .u8 tn] w fun e w' => e = .returned (.bool true) ∧ Below w.heap.size w w' := by
  have hal := Lib.hid alive_any
  by_cases c0 : 40 < ps.length
  · have c0' : decide ((40 : Int) < ps.length) = true := by simp; omega
    go_enter Try.func11, Try.ntmps11
    go_wp2_with fail
    refine (hal.out _).mono ?_
    rintro e W1 ⟨rfl, hb1⟩
    go_wp2
    go_ret
    exact ⟨rfl, hb1⟩
  by_cases cu : us.length = 0
  · have c0' : decide ((40 : Int) < ps.length) = false := by simp; omega
    have cu' : ((us.length : Int) == 0) = true := by simp [cu]
    clear cu
    go_enter Try.func11, Try.ntmps11
    go_wp2_with fail
    refine (hal.out _).mono ?_
    rintro e W1 ⟨rfl, hb1⟩
    go_wp2
    go_ret
    exact ⟨rfl, hb1⟩
  have c0' : decide ((40 : Int) < ps.length) = false := by simp; omega
  have cu' : ((us.length : Int) == 0) = false := beq_eq_false_iff_ne.2 (by omega)
  have hmx := Lib.hid fun W (hb : Below w.heap.size w W) => Mix_all A c ps s W hn (Lib.hid (hp.below hb))
  replace hp := Lib.hid hp
  replace hu := Lib.hid hu
  replace hub := Lib.hid hub
  obtain ⟨i0, hi, hz0, hz1, hz2⟩ := info_parts info_part
  replace hz0 := Lib.hid hz0
  replace hz1 := Lib.hid hz1
  replace hz2 := Lib.hid hz2
  replace hi := Lib.hid hi
  go_enter Try.func11, Try.ntmps11
  go_wp2_with fail
  refine (hmx.out _ (Below.refl _ _)).mono ?_
  rintro e W1 ⟨xa, xb, xc, xd, xk, rfl, hr, hB1⟩
  replace hr := Lib.hid hr
  go_upto_region 4 with fail
  refine wp_world (fun W => Below w.heap.size w W ∧ Blk W W1.heap.size 41 #[.int .i64 xa, .int .i64 xb, .int .i64 xc, .int .i64 xd]) ⟨hB1.alloc hB1.size _, Blk.new _ _ _⟩ ?_
  have gx0 : w.heap.size ≤ W1.heap.size := hB1.size
  clear hB1
  generalize W1.heap.size = gx at *
  rintro W2 ⟨hB2, bx⟩
  obtain ⟨t, rfl⟩ := Int.eq_ofNat_of_zero_le t1
  have tl0 : (rot ps (t % ps.length)).length = ps.length := rot_length
  generalize htl : rot ps (t % ps.length) = tl at *
  replace htl := Lib.hid htl
  replace tl0 := Lib.hid tl0
  have gx1 := bx.lt
  go_wp2
  go_loopw [11, 12, 43] (fun s11 _ i wr => ∃ k : Nat, k ≤ ps.length ∧ i = .int .i64 k ∧ wr.ownsRow (gx + 1) 41 4 s11 k ((tl.take k).flatMap partCells) ∧ Below w.heap.size w wr ∧ gx + 1 ≤ wr.heap.size ∧ Blk wr gx 41 #[.int .i64 xa, .int .i64 xb, .int .i64 xc, .int .i64 xd]) (fun _ _ i _ => ps.length - (intOf i).toNat)
  case atStart => exact ⟨0, Nat.zero_le _, rfl, by simpa using World.ownsRow_nil _ _ _ _, hB2, gx1, bx⟩
  case round =>
    clear gx1 bx hB2
    obtain ⟨k, hk, rfl, hown, hB, gx1, bx⟩ := hrel
    by_cases hlt : k < ps.length
    · obtain ⟨b, off, hA, hbl, hcells⟩ := hp.out (by omega)
      have hjj : (k + t) % ps.length < ps.length := Nat.mod_lt _ (by omega)
      obtain ⟨p, hpk⟩ : ∃ p, ps[(k + t) % ps.length]? = some p := ⟨_, List.getElem?_eq_getElem hjj⟩
      have htk : tl[k]? = some p := by rw [← htl.out, rot_get hlt, hpk]
      have hrem : ((k : Int) + (t : Int)).tmod (ps.length : Int) = (((k + t) % ps.length : Nat) : Int) := by
        rw [Int.tmod_eq_emod_of_nonneg (by omega)]; simp
      obtain ⟨k1, k2, k3, k4⟩ := hcells _ p hpk
      generalize hj : (k + t) % ps.length = j at *
      clear hj
      have k1' := cell_later hB k1
      have k2' := cell_later hB k2
      have k3' := cell_later hB k3
      have k4' := cell_later hB k4
      have hnx : (tl.take (k + 1)).flatMap partCells = (tl.take k).flatMap partCells ++ partCells p := by
        rw [List.take_add_one, htk]; simp
      replace hnx := Lib.hid hnx
      have hpn : ((ps.length : Nat) : Int) ≠ 0 := by omega
      subst hA
      clear hcells hpk htk k1 k2 k3 k4
      go_wp2_with (at_builtin; refine wpList_append_own _ rfl _ _ 39 rfl (gx + 1) 41 i0 (.agg #[.int .i64 0, .int .i64 0, .int .i64 0, .int .i64 0]) 4 32 Try.underlying39 hi.out hz0.out hz1.out hz2.out rfl (by decide) _ _ _ rfl (hown.alloc _) ⟨wr.heap.size, 0, none⟩ 1 1 (partCells p) rfl rfl ?c1 ?c2 ?c3 ?c4 ?c5 ?_)
      case c1 =>
        intro j' u hj'
        rw [Go.WideShapes.add_plain, Nat.zero_add, (Blk.new _ _ _).cell]
        simpa [partCells] using hj'
      case c2 => intro u hu'; simp [partCells] at hu'; rcases hu' with rfl | rfl | rfl | rfl <;> rfl
      case c3 => unfold maxLen; omega
      case c4 => omega
      case c5 => simp; omega
      intro v' w1 hown' hgrow _
      have hob := hown.lt
      have hB' : Below w.heap.size w w1 := (hB.alloc hB.size _).grown hgrow (by simp; omega) (fun x hx => by have := (hob x hx).1; omega)
      have hsz' : gx + 1 ≤ w1.heap.size := by have := hgrow.size; simp at this; omega
      have bx' : Blk w1 gx 41 #[.int .i64 xa, .int .i64 xb, .int .i64 xc, .int .i64 xd] := (hgrow.block gx (by simp; omega) (fun hx => by have := (hob gx hx.symm).1; omega)).trans (bx.alloc _)
      clear hob hgrow hown hB bx k1' k2' k3' k4'
      go_wp2
      go_roundw
      case rel => exact ⟨k + 1, by omega, by go_num, by rw [hnx.out]; exact hown', hB', hsz', bx'⟩
      case measure => simp [intOf]; omega
    · have hk' : k = ps.length := by omega
      subst hk'
      rw [List.take_of_length_le (by rw [tl0.out]; exact Nat.le_refl _), ← tl0.out] at hown
      obtain ⟨tA, tc, rfl, tpa⟩ := owns_parts hown
      have hmt := Lib.hid (Mix_all tA tc tl s wr (by rw [tl0.out]; exact hn) (Lib.hid tpa))
      rw [tl0.out] at hmt ⊢
      clear hown tpa
      go_wp2_with fail
      refine hmt.out.mono ?_
      rintro e W3 ⟨ya, yb, yc, yd, yk, rfl, hr2, hb⟩
      rw [← htl.out] at hr2
      obtain ⟨rfl, rfl, rfl, rfl, rfl⟩ := hr.out.uniq (mixIs_rot hr2)
      have hB3 := hB.trans (hb.mono hB.size)
      replace bx := bx.below hb bx.lt
      clear hb hB hmt hr2
      go_upto_region 11 with fail
      refine wp_world (fun W => Below w.heap.size w W ∧ Blk W gx 41 #[.int .i64 xa, .int .i64 xb, .int .i64 xc, .int .i64 xd] ∧ Blk W W3.heap.size 41 #[.int .i64 xa, .int .i64 xb, .int .i64 xc, .int .i64 xd]) ⟨hB3.alloc hB3.size _, bx.alloc _, Blk.new _ _ _⟩ ?_
      clear hB3 bx
      generalize W3.heap.size = gy
      rintro W4 ⟨hB4, bx, by4⟩
      obtain ⟨x0, x1, x2, x3, _, _, _, _⟩ := bx.facts4
      obtain ⟨y0, y1, y2, y3, _, _, _, _⟩ := by4.facts4
      rcases mixIs_cases hr.out with ⟨hk0, rfl, rfl, rfl, rfl⟩ | ⟨rfl, hall, ⟨s01, s02⟩, hAH, hAL, ex1, ex2, ex3, ex4⟩
      · have hk0' : (xk == 0) = false := beq_eq_false_iff_ne.2 hk0
        have hk0'' : (xk != 0) = true := by simp [hk0]
        clear hk0 hr htl tl0 hp hu hub
        go_wp2_with fail
        refine (hal.out _).mono ?_
        rintro e W5 ⟨rfl, hb5⟩
        go_wp2
        go_ret
        exact ⟨rfl, hB4.trans (hb5.mono hB4.size)⟩
      · go_upto_region 15 with fail
        clear hr htl tl0 by4 y0 y1 y2 y3
        have hall' := Lib.hid hall
        have hm0 : 0 < us.length := by
          rcases Nat.eq_zero_or_pos us.length with h | h
          · rw [h] at cu'; simp at cu'
          · exact h
        obtain ⟨ub, uoff, huA, hul, hucells⟩ := hu.out hm0
        subst huA
        obtain ⟨u0, hu0⟩ : ∃ u0, us[0]?.getD 0 = u0 := ⟨_, rfl⟩
        have hu0b : 0 ≤ u0 ∧ u0 ≤ 4294967295 := by
          rw [← hu0, List.getElem?_eq_getElem hm0]
          exact hub.out _ (List.getElem_mem hm0)
        obtain ⟨r, hrr⟩ : ∃ r, u0.tmod (s + 1) = r := ⟨_, rfl⟩
        have hr01 : 0 ≤ r ∧ r ≤ s := by
          rw [← hrr, Int.tmod_eq_emod_of_nonneg hu0b.1]
          have h1 := Int.emod_nonneg u0 (show s + 1 ≠ 0 by omega)
          have h2 := Int.emod_lt_of_pos u0 (show 0 < s + 1 by omega)
          omega
        have hTA := fun m cc => true_all (us := us) (m := m) (c := cc) hall hAH hAL s01 s02 hr01.1 hr01.2
        rw [← ex4, ← ex3, ← ex1, ← ex2] at hTA
        have hTS := fun k hk => true_sums (us := us) hall hAH k hk
        replace hTA := Lib.hid hTA
        replace hTS := Lib.hid hTS
        have hx2 : xb ≤ 1099511627776 := by omega
        replace hrr := Lib.hid hrr
        clear ex1 ex2 ex3 ex4 hall hAH hAL hr01 x0 x1 x2 x3
        have hucell := Lib.hid hucells
        have hc0 := hucells 0 hm0
        rw [hu0, Nat.add_zero] at hc0
        replace hc0 := Lib.hid (fun W (hb : Below w.heap.size w W) => cell_later hb hc0)
        clear hucells hu0
        go_wp2
        go_loopw [15, 16, 17, 18, 19, 20, 84] (fun s15 s16 _ _ _ _ i wr => ∃ k : Nat, k ≤ ps.length ∧ i = .int .i64 k ∧ s15 = .int .i64 (amt (trueA ps us) k) ∧ s16 = .int .i64 (amt (fun i => trueA ps us i * trueS ps us i) k) ∧ Below w.heap.size w wr ∧ Blk wr gx 41 #[.int .i64 xa, .int .i64 xb, .int .i64 xc, .int .i64 xd]) (fun _ _ _ _ _ _ i _ => ps.length - (intOf i).toNat)
        case atStart => exact ⟨0, Nat.zero_le _, rfl, rfl, rfl, hB4, bx⟩
        case round =>
          clear hB4 bx
          obtain ⟨k, hk, rfl, rfl, rfl, hB, bx⟩ := hrel
          obtain ⟨⟨am0, am1⟩, al0, al1⟩ := hTS.out k hk
          by_cases hlt : k < ps.length
          · obtain ⟨b, off, hA, hbl, hcells⟩ := hp.out (by omega)
            obtain ⟨p, hpk⟩ : ∃ p, ps[k]? = some p := ⟨_, List.getElem?_eq_getElem hlt⟩
            obtain ⟨k1, k2, k3, k4⟩ := hcells k p hpk
            have hpo := hall'.out p (List.mem_of_getElem? hpk)
            obtain ⟨td1, td2, td3, td4⟩ := true_bd (us := us) hall'.out hpk
            have eA : trueA ps us k = innerV p.al p.ah (us[k % us.length]?.getD 0) := by unfold trueA; rw [hpk]
            have eS : trueS ps us k = innerV p.sl p.sh (us[(k + 1) % us.length]?.getD 0) := by unfold trueS; rw [hpk]
            have hnA : Hid (amt (trueA ps us) (k + 1) = amt (trueA ps us) k + trueA ps us k) := Lib.hid rfl
            have hnC : Hid (amt (fun i => trueA ps us i * trueS ps us i) (k + 1) = amt (fun i => trueA ps us i * trueS ps us i) k + trueA ps us k * trueS ps us k) := Lib.hid rfl
            obtain ⟨⟨an0, an1⟩, cn0, cn1⟩ := hTS.out (k + 1) hlt
            rw [hnA.out] at an0 an1
            rw [hnC.out] at cn0 cn1
            have hj1 : k % us.length < us.length := Nat.mod_lt _ hm0
            have hj2 : (k + 1) % us.length < us.length := Nat.mod_lt _ hm0
            have q1 : ((k : Int)).tmod (us.length : Int) = ((k % us.length : Nat) : Int) := by rw [Int.tmod_eq_emod_of_nonneg (by omega)]; simp
            have q2 : ((k : Int) + 1).tmod (us.length : Int) = (((k + 1) % us.length : Nat) : Int) := by rw [Int.tmod_eq_emod_of_nonneg (by omega)]; simp
            have c1 := cell_later hB (hucell.out _ hj1)
            have c2 := cell_later hB (hucell.out _ hj2)
            have ub1 : 0 ≤ us[k % us.length]?.getD 0 ∧ us[k % us.length]?.getD 0 ≤ 4294967295 := by rw [List.getElem?_eq_getElem hj1]; exact hub.out _ (List.getElem_mem hj1)
            have ub2 : 0 ≤ us[(k + 1) % us.length]?.getD 0 ∧ us[(k + 1) % us.length]?.getD 0 ≤ 4294967295 := by rw [List.getElem?_eq_getElem hj2]; exact hub.out _ (List.getElem_mem hj2)
            generalize us[k % us.length]?.getD 0 = v1 at *
            generalize us[(k + 1) % us.length]?.getD 0 = v2 at *
            generalize trueA ps us k = av at *
            generalize trueS ps us k = sv at *
            generalize amt (trueA ps us) k = am at *
            generalize amt (fun i => trueA ps us i * trueS ps us i) k = cm at *
            generalize k % us.length = j1 at *
            generalize (k + 1) % us.length = j2 at *
            obtain ⟨al, ah, sl, sh⟩ := p
            obtain ⟨⟨o1, o2, o3⟩, o4, o5, o6⟩ := hpo
            dsimp only at k1 k2 k3 k4 eA eS o1 o2 o3 o4 o5 o6 td1 td2 td3 td4
            have hia := fun W => inner_any al ah v1 W o1 (by omega) (by omega) ub1.1 ub1.2
            have his := fun W => inner_any sl sh v2 W o4 (by omega) (by omega) ub2.1 ub2.2
            rw [← eA] at hia
            rw [← eS] at his
            replace hia := Lib.hid hia
            replace his := Lib.hid his
            have k1' := cell_later hB k1
            have k2' := cell_later hB k2
            have k3' := cell_later hB k3
            have k4' := cell_later hB k4
            have pr0 : 0 ≤ av * sv := by
              have : 0 ≤ al * sl := Int.mul_nonneg o2 o5
              omega
            subst hA
            replace q1 := Lib.hid q1
            replace q2 := Lib.hid q2
            clear hcells hpk k1 k2 k3 k4 eA eS ub1 ub2
            go_upto_region 19 with fail
            refine wp_world (fun W => Below w.heap.size w W ∧ Blk W gx 41 #[.int .i64 xa, .int .i64 xb, .int .i64 xc, .int .i64 xd] ∧ Blk W wr.heap.size 41 #[.int .i64 al, .int .i64 ah, .int .i64 sl, .int .i64 sh] ∧ W.cell? ⟨ub, uoff + j1, none⟩ = some (.int .u32 v1) ∧ W.cell? ⟨ub, uoff + j2, none⟩ = some (.int .u32 v2)) ⟨hB.alloc hB.size _, bx.alloc _, Blk.new _ _ _, cell_later ((Below.refl _ _).alloc (Nat.le_refl _) _) c1, cell_later ((Below.refl _ _).alloc (Nat.le_refl _) _) c2⟩ ?_
            clear hB bx c1 c2 k1' k2' k3' k4'
            generalize wr.heap.size = gp
            rintro W5 ⟨hB, bx, bp, c1, c2⟩
            obtain ⟨x0, x1, x2, x3, _, _, _, _⟩ := bp.facts4
            have x0' := fun d os => cell_regrown x0 d os
            have x1' := fun d os => cell_regrown x1 d os
            have x2' := fun d os => cell_regrown x2 d os
            have x3' := fun d os => cell_regrown x3 d os
            have c1' := fun d os => cell_regrown c1 d os
            have c2' := fun d os => cell_regrown c2 d os
            have z1 := q1.out
            have z2 := q2.out
            have z3 : IntKind.i64.wrap ((k : Int) + 1) = (k : Int) + 1 := IntWalk.i64_in _ (by omega)
            have z4 : IntKind.i64.wrap (j1 : Int) = (j1 : Int) := IntWalk.i64_in _ (by omega)
            have z5 : IntKind.i64.wrap (j2 : Int) = (j2 : Int) := IntWalk.i64_in _ (by omega)
            have z6 : ((us.length : Nat) : Int) ≠ 0 := by omega
            have z7 : (j1 : Int) < us.length := by omega
            have z8 : (j2 : Int) < us.length := by omega
            refine wp_region_quiet_below (by kernel_rfl) (by kernel_rfl) ?_
            repeat (quiet_step (first | (go_at_call_of 36 (Value.int IntKind.u32 v1); exact quiet_call (fun W1 _ => hia.out W1)) | (go_at_call_of 36 (Value.int IntKind.u32 v2); exact quiet_call (fun W1 _ => his.out W1))))
            refine wpQuiet_nil ?_
            intro _ hw'
            obtain ⟨⟨dq, osq⟩, hw''⟩ := hw'
            subst hw''
            have hb3 := below_regrown W5 dq osq
            have hB6 := hB.trans (hb3.mono hB.size)
            replace bx := bx.below hb3 bx.lt
            clear x0 x1 x2 x3 x0' x1' x2' x3' c1 c2 c1' c2' z1 z2 z3 z4 z5 hb3 hB hia his bp
            generalize grow (redrawn W5 dq) osq = W6 at *
            go_wp2
            go_roundw
            case rel => exact ⟨k + 1, by omega, by go_num, by rw [hnA.out], by rw [hnC.out], hB6, bx⟩
            case measure => simp [intOf]; omega
          · have hk' : k = ps.length := by omega
            subst hk'
            obtain ⟨m, hm⟩ : ∃ m, amt (trueA ps us) ps.length = m := ⟨_, rfl⟩
            obtain ⟨cc, hcc⟩ : ∃ cc, amt (fun i => trueA ps us i * trueS ps us i) ps.length = cc := ⟨_, rfl⟩
            obtain ⟨m1, m2, ⟨d1, d2⟩, g1, g2, g3, g4, g5, g6, g7, g8, g9, g10, g11, g12, g13⟩ := hTA.out m cc hm hcc
            rw [hm] at am0 am1 ⊢
            rw [hcc] at al0 al1 ⊢
            clear hm hcc hTA hTS hucell hub
            have cu0 := hc0.out _ hB
            obtain ⟨x0, x1, x2, x3, _, _, _, _⟩ := bx.facts4
            have rr := hrr.out
            have sz : s + 1 ≠ 0 := by omega
            have um0 : (0 : Int) < us.length := by omega
            have hLb : ∃ L, m - m * r / 10000 = L := ⟨_, rfl⟩
            obtain ⟨L, hL⟩ := hLb
            rw [hL] at g5 g13
            have hL0 : 0 ≤ L ∧ L ≤ m := by omega
            replace hL := Lib.hid hL
            go_upto_region 23 with fail
            rw [hL.out]
            clear rr hrr cu0 hc0 hL g1 g2 g3 g4 sz
            have hhas := Lib.hid fun W => has_any xa xb m W
            have f1 : decide (xb < m) = false := by simpa using m1
            have f2 : decide (L < xa) = false := by simpa using g5
            have f3 : decide (xd < xc) = false := by simpa using g6
            have f4 : decide (cc < xc * m) = false := by simpa using g9
            go_cut [158] (fun v wx => v = .bool false ∧ Below w.heap.size w wx ∧ Blk wx gx 41 #[.int .i64 xa, .int .i64 xb, .int .i64 xc, .int .i64 xd])
            case first =>
              go_wp2_with fail
              refine (hhas.out _).mono ?_
              rintro e W5 ⟨q, rfl, hq, hb5⟩
              have hqt : q = true := hq.2 ⟨by omega, m1⟩
              subst hqt
              clear hq
              have hB5 := hB.trans (hb5.mono hB.size)
              replace bx := bx.below hb5 bx.lt
              clear hb5 hB x0 x1 x2 x3 hhas
              obtain ⟨x0, x1, x2, x3, _, _, _, _⟩ := bx.facts4
              go_wp2_with fail
              go_meet
              exact ⟨rfl, hB5, bx⟩
            case rest =>
              clear hB bx x0 x1 x2 x3 hhas f1 f2 f3
              obtain ⟨rfl, hB, bx⟩ := hcut
              obtain ⟨x0, x1, x2, x3, _, _, _, _⟩ := bx.facts4
              go_upto_region 25 with fail
              go_cut [184] (fun v wx => v = .bool false ∧ wx = wc)
              case first =>
                by_cases c3 : xd < 10000
                · have c3' : decide (xd < 10000) = true := by simpa using c3
                  obtain ⟨j1, j2, j3⟩ := g13 c3
                  have f5 : decide (xd * L < cc - xd) = false := by simpa using j1
                  clear g13
                  go_wp2_with fail
                  go_meet
                  exact ⟨rfl, rfl⟩
                · have c3' : decide (xd < 10000) = false := by simpa using c3
                  clear g13
                  go_wp2_with fail
                  go_meet
                  exact ⟨rfl, rfl⟩
              case rest =>
                obtain ⟨rfl, rfl⟩ := hcut
                clear x0 x1 x2 x3 bx f4 g13 g5 g6 g7 g8 g9 g10 g11 g12 m1 m2
                go_wp2_with fail
                go_loopw [187, 23, 24, 25] (fun i _ _ _ wr => ∃ k : Nat, k ≤ ps.length ∧ i = .int .i64 k ∧ Below w.heap.size w wr) (fun i _ _ _ _ => ps.length - (intOf i).toNat)
                case atStart => exact ⟨0, Nat.zero_le _, rfl, hB⟩
                case round =>
                  clear hB
                  obtain ⟨k, hk, rfl, hB⟩ := hrel
                  by_cases hlt : k < ps.length
                  · obtain ⟨b, off, hA, hbl, hcells⟩ := hp.out (by omega)
                    obtain ⟨p, hpk⟩ : ∃ p, ps[k]? = some p := ⟨_, List.getElem?_eq_getElem hlt⟩
                    obtain ⟨k1, k2, k3, k4⟩ := hcells k p hpk
                    have hpo := hall'.out p (List.mem_of_getElem? hpk)
                    have hown : ∀ a b c d k : Int, p.al = p.ah → 0 < p.al → MixIs [p] 0 a b c d k → a = p.al ∧ b = p.ah ∧ c ≤ p.sl ∧ p.sh ≤ d ∧ k = 0 := fun _ _ _ _ _ h1 h2 h3 => own_math hpo h1 h2 h3
                    obtain ⟨al, ah, sl, sh⟩ := p
                    dsimp only at k1 k2 k3 k4 hown
                    have k1' := cell_later hB k1
                    have k2' := cell_later hB k2
                    have k3' := cell_later hB k3
                    have k4' := cell_later hB k4
                    replace hown := Lib.hid hown
                    subst hA
                    clear hcells hpk k1 k2 k3 k4 hpo
                    go_upto_region 30 with fail
                    refine wp_world (fun W => Below w.heap.size w W ∧ Blk W wr.heap.size 41 #[.int .i64 al, .int .i64 ah, .int .i64 sl, .int .i64 sh]) ⟨hB.alloc hB.size _, Blk.new _ _ _⟩ ?_
                    clear hB k1' k2' k3' k4'
                    generalize wr.heap.size = gp
                    rintro W5 ⟨hB, bp⟩
                    obtain ⟨x0, x1, x2, x3, _, _, _, _⟩ := bp.facts4
                    by_cases c1 : al = ah ∧ 0 < al
                    · obtain ⟨e1, e2⟩ := c1
                      have e1' : (al == ah) = true := by simpa using e1
                      have e2' : decide (0 < al) = true := by simpa using e2
                      have hmo := Lib.hid (fun W => Mix_all (some ⟨W5.heap.size, 0, none⟩) 1 [⟨al, ah, sl, sh⟩] 0 W (by simp))
                      have hown2 := Lib.hid (fun a b c d k => hown.out a b c d k e1 e2)
                      clear hown e1
                      go_wp2_with fail
                      refine calls_world (fun W => Below w.heap.size w W ∧ Blk W gp 41 #[.int .i64 al, .int .i64 ah, .int .i64 sl, .int .i64 sh] ∧ Blk W W5.heap.size 41 #[.int .i64 al, .int .i64 ah, .int .i64 sl, .int .i64 sh]) ⟨hB.alloc hB.size _, bp.alloc _, Blk.new _ _ _⟩ ?_
                      clear hB bp x0 x1 x2 x3
                      rintro W6 ⟨hB, bp, bq⟩
                      have hpa : PartsAt W6 (some ⟨W5.heap.size, 0, none⟩) [⟨al, ah, sl, sh⟩] := fun _ => ⟨W5.heap.size, 0, rfl, bq.lt, fun i p hi => by
                        have hlt : i < 1 := (List.getElem?_eq_some_iff.1 hi).1
                        obtain rfl : i = 0 := by omega
                        cases hi
                        exact ⟨bq.cell _, bq.cell _, bq.cell _, bq.cell _⟩⟩
                      refine (hmo.out W6 (Lib.hid hpa)).mono ?_
                      rintro e W7 ⟨ya, yb, yc, yd, yk, rfl, hr2, hb⟩
                      obtain ⟨rfl, rfl, l1, l2, rfl⟩ := hown2.out _ _ _ _ _ hr2
                      replace hB := hB.trans (hb.mono hB.size)
                      replace bp := bp.below hb bp.lt
                      clear hb hr2 bq hpa hmo hown2
                      go_upto_region 32 with fail
                      refine wp_world (fun W => Below w.heap.size w W ∧ Blk W gp 41 #[.int .i64 ya, .int .i64 yb, .int .i64 sl, .int .i64 sh] ∧ Blk W W7.heap.size 41 #[.int .i64 ya, .int .i64 yb, .int .i64 yc, .int .i64 yd]) ⟨hB.alloc hB.size _, bp.alloc _, Blk.new _ _ _⟩ ?_
                      clear hB bp
                      generalize W7.heap.size = gq
                      rintro W8 ⟨hB, bp, bq⟩
                      obtain ⟨x0, x1, x2, x3, _, _, _, _⟩ := bp.facts4
                      obtain ⟨y0, y1, y2, y3, _, _, _, _⟩ := bq.facts4
                      have l1' : decide (yc ≤ sl) = true := by simpa using l1
                      have l2' : decide (sh ≤ yd) = true := by simpa using l2
                      go_wp2_with fail
                      refine (hal.out _).mono ?_
                      rintro e W9 ⟨rfl, hb9⟩
                      go_wp2
                      go_ret
                      exact ⟨rfl, hB.trans (hb9.mono hB.size)⟩
                    · by_cases e1 : al = ah
                      · have e1' : (al == ah) = true := by simpa using e1
                        have e2' : decide (0 < al) = false := by simp; omega
                        clear hown e1 c1
                        go_wp2_with fail
                        go_roundw
                        case rel => exact ⟨k + 1, by omega, by go_num, hB⟩
                        case measure => simp [intOf]; omega
                      · have e1' : (al == ah) = false := by simpa using e1
                        clear hown e1 c1
                        go_wp2_with fail
                        go_roundw
                        case rel => exact ⟨k + 1, by omega, by go_num, hB⟩
                        case measure => simp [intOf]; omega
                  · have hk' : k = ps.length := by omega
                    subst hk'
                    go_wp2_with fail
                    refine (hal.out _).mono ?_
                    rintro e W9 ⟨rfl, hb9⟩
                    go_wp2
                    go_ret
                    exact ⟨rfl, hB.trans (hb9.mono hB.size)⟩
end Go.Proofs.Ytcghafdemklnnaa
