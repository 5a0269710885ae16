/- bends hands on the ends of a span and the numbers of an axis between them. -/
import Derived.Test.YtcghafdemklnnaaProg
import Derived.Test.YtcghafdemklnnaaIter
import Derived.Test.YtcghafdemklnnaaLow
namespace Go.Proofs.Ytcghafdemklnnaa
open Go.RowKit Go.Shelf
attribute [local go_sem] Oper.semAt_some

/-- the slice value holds these ints, in a block of D -/
def Ints (D : Nat → Prop) (w : World) (sv : Value) (xs : List Int) : Prop :=
  (sv = .slice none 0 0 ∧ xs = []) ∨ ∃ b off cap, sv = .slice (some ⟨b, off, none⟩) xs.length cap ∧ b < w.heap.size ∧ D b ∧ ∀ j, j < xs.length → w.cell? ⟨b, off + j, none⟩ = some (.int .i64 (xs[j]?.getD 0))

def bendsL (axis : List Int) (lo hi : Int) : List Int := lo :: (axis.filter (fun x => decide (lo < x) && decide (x < hi)) ++ if lo < hi then [hi] else [])
def bendsTo (axis : List Int) (lo hi : Int) (k : Nat) : List Int := lo :: (axis.take k).filter (fun x => decide (lo < x) && decide (x < hi))
theorem bendsTo_zero (axis : List Int) (lo hi : Int) : bendsTo axis lo hi 0 = [lo] := by simp [bendsTo]
theorem bendsTo_yes {axis : List Int} {lo hi : Int} {k : Nat} (hk : k < axis.length) (h1 : lo < axis[k]?.getD 0) (h2 : axis[k]?.getD 0 < hi) : bendsTo axis lo hi (k + 1) = bendsTo axis lo hi k ++ [axis[k]?.getD 0] := by
  simp only [List.getElem?_eq_getElem hk, Option.getD_some] at h1 h2 ⊢
  unfold bendsTo
  rw [List.take_succ_eq_append_getElem hk, List.filter_append]
  simp [h1, h2]
theorem bendsTo_no {axis : List Int} {lo hi : Int} {k : Nat} (hk : k < axis.length) (h : ¬ (lo < axis[k]?.getD 0 ∧ axis[k]?.getD 0 < hi)) : bendsTo axis lo hi (k + 1) = bendsTo axis lo hi k := by
  simp only [List.getElem?_eq_getElem hk, Option.getD_some] at h
  have h' : (decide (lo < axis[k]) && decide (axis[k] < hi)) = false := by
    rw [Bool.and_eq_false_iff]
    by_cases h1 : lo < axis[k]
    · right; simp; omega
    · left; simp; omega
  unfold bendsTo
  rw [List.take_succ_eq_append_getElem hk, List.filter_append]
  simp only [List.filter_cons, h', List.filter_nil]
  simp
theorem bendsTo_all (axis : List Int) (lo hi : Int) : bendsL axis lo hi = bendsTo axis lo hi axis.length ++ if lo < hi then [hi] else [] := by simp [bendsTo, bendsL]
theorem bendsTo_prefix (axis : List Int) (lo hi : Int) (k : Nat) : bendsTo axis lo hi k <+: bendsL axis lo hi := by
  refine ⟨(axis.drop k).filter (fun x => decide (lo < x) && decide (x < hi)) ++ if lo < hi then [hi] else [], ?_⟩
  simp only [bendsTo, bendsL, List.cons_append, ← List.append_assoc, ← List.filter_append, List.take_append_drop]
theorem bendsTo_next {axis : List Int} {lo hi : Int} {k : Nat} (hk : k < axis.length) (h1 : lo < axis[k]?.getD 0) (h2 : axis[k]?.getD 0 < hi) : ∃ rest, bendsL axis lo hi = bendsTo axis lo hi k ++ (axis[k]?.getD 0) :: rest := by
  obtain ⟨r, hr⟩ := bendsTo_prefix axis lo hi (k + 1)
  rw [bendsTo_yes hk h1 h2] at hr
  exact ⟨r, by rw [← hr]; simp⟩

set_option maxRecDepth 100000 in
set_option maxHeartbeats 2000000 in
theorem bends1_in (F : Fence) (n : Nat) (hF : F.fn 86) (hd : F.depth = none) (hro : F.round = none) (l Bs Ba b off cap : Nat) (axis : List Int) (lo hi : Int) (hlen : axis.length ≤ 1000) (C : Nat → Prop)
    (J Jx : List Int → World → Prop) (W : World)
    (hY : ∀ pre x rest W1, bendsL axis lo hi = pre ++ x :: rest → J pre W1 → W.heap.size ≤ W1.heap.size → ∀ m, YieldAt F m Try.prog l #[.int .i64 x] W1 fun e W' =>
      Kept C W1 W' ∧ ((e = .returned (.bool true) ∧ J (pre ++ [x]) W') ∨ (e = .returned (.bool false) ∧ Jx (pre ++ [x]) W')))
    (hBs : Bs < W.heap.size ∧ ¬ C Bs) (hBa : Ba < W.heap.size ∧ ¬ C Ba) (hb : b < W.heap.size ∧ ¬ C b)
    (hlo : W.cell? ⟨Bs, 0, none⟩ = some (.int .i64 lo)) (hhi : W.cell? ⟨Bs, 1, none⟩ = some (.int .i64 hi)) (hax : W.cell? ⟨Ba, 0, none⟩ = some (.slice (some ⟨b, off, none⟩) axis.length cap))
    (hc : ∀ j, j < axis.length → W.cell? ⟨b, off + j, none⟩ = some (.int .i64 (axis[j]?.getD 0))) (h0 : J [] W) :
    CallsIn F n Try.prog 86 #[.func (.yield l) #[] #[], .pointer (some ⟨Bs, 0, none⟩), .pointer (some ⟨Ba, 0, none⟩)] W fun e W' => (∃ v, e = .returned v) ∧ (J (bendsL axis lo hi) W' ∨ ∃ pre, pre <+: bendsL axis lo hi ∧ Jx pre W') := by
  have hdd : ∀ k : Nat, (F.depth.isSome = true → 1 ≤ k) := fun k h => by rw [hd] at h; cases h
  refine callsIn_of_wp Try.func86 rfl hF ?_ hro
  simp only [Try.ntmps86, List.size_toArray, List.length_cons, List.length_nil, Nat.reduceAdd, Nat.reduceSub, Array.replicate_succ, Array.replicate_zero, List.push_toArray, List.append_toArray, List.nil_append, List.cons_append]
  obtain ⟨fn, tmps, assign, body, hy, hR⟩ := hY [] lo _ W rfl h0 (Nat.le_refl _) (n - 1)
  gi_wp2
  refine hR.mono ?_
  clear hy hR
  rintro e W1 ⟨hk1, ⟨rfl, hJ1⟩ | ⟨rfl, hJx1⟩⟩
  · have hlo1 := (hk1.cell (p := ⟨Bs, 0, none⟩) hBs.1 hBs.2).trans hlo
    have hhi1 := (hk1.cell (p := ⟨Bs, 1, none⟩) hBs.1 hBs.2).trans hhi
    have hax1 := (hk1.cell (p := ⟨Ba, 0, none⟩) hBa.1 hBa.2).trans hax
    gi_wp2
    gi_loopw [13] (fun i wr => ∃ k : Nat, k ≤ axis.length ∧ i = .int .i64 k ∧ J (bendsTo axis lo hi k) wr ∧ Kept C W wr) (fun i _ => axis.length - (intOf i).toNat)
    case atStart => exact ⟨0, Nat.zero_le _, rfl, by rw [bendsTo_zero]; exact hJ1, hk1⟩
    case round =>
      obtain ⟨k, hk, rfl, hJs, hkr⟩ := hrel
      clear hlo1 hhi1 hax1 hJ1 hk1
      have hlo2 := (hkr.cell (p := ⟨Bs, 0, none⟩) hBs.1 hBs.2).trans hlo
      have hhi2 := (hkr.cell (p := ⟨Bs, 1, none⟩) hBs.1 hBs.2).trans hhi
      by_cases hlt : k < axis.length
      · have hcx : wr.cell? ⟨b, off + k, none⟩ = some (.int .i64 (axis[k]?.getD 0)) := (hkr.cell (p := ⟨b, off + k, none⟩) hb.1 hb.2).trans (hc k hlt)
        have hyes := bendsTo_yes (lo := lo) (hi := hi) hlt
        have hno := bendsTo_no (lo := lo) (hi := hi) hlt
        have hnext := bendsTo_next (lo := lo) (hi := hi) hlt
        have hpre := bendsTo_prefix axis lo hi (k + 1)
        generalize axis[k]?.getD 0 = x at hcx hyes hno hnext
        have hpre := Lib.hid hpre
        by_cases h1 : lo < x
        · by_cases h2 : x < hi
          · obtain ⟨rest, hrest⟩ := hnext h1 h2
            obtain ⟨fn, tmps, assign, body, hy, hR⟩ := hY _ _ rest wr hrest hJs hkr.size (n - 1)
            have hyes' := Lib.hid (hyes h1 h2)
            clear hrest hyes hno hnext
            gi_wp2
            refine hR.mono ?_
            rintro e W3 ⟨hk3, ⟨rfl, hJ3⟩ | ⟨rfl, hJx3⟩⟩
            · gi_wp2
              go_roundw
              case rel => exact ⟨k + 1, by omega, by simp, by rw [hyes'.out]; exact hJ3, hkr.trans hk3⟩
              case measure => simp [intOf]; omega
            · gi_wp2
              refine bodyPost_ret (results_none rfl _ _ _) rfl ?_
              exact ⟨⟨_, rfl⟩, .inr ⟨_, by rw [← hyes'.out]; exact hpre.out, hJx3⟩⟩
          · have h2' : decide (x < hi) = false := by simpa using h2
            have hno' := Lib.hid (hno (by omega))
            clear hyes hno hnext
            gi_wp2
            refine ⟨fun _ h => (by cases h), ?_⟩
            gi_wp2
            go_roundw
            case rel => exact ⟨k + 1, by omega, by simp, by rw [hno'.out]; exact hJs, hkr⟩
            case measure => simp [intOf]; omega
        · have h1' : decide (lo < x) = false := by simpa using h1
          have hno' := Lib.hid (hno (by omega))
          clear hyes hno hnext
          gi_wp2
          refine ⟨fun _ h => (by cases h), ?_⟩
          gi_wp2
          go_roundw
          case rel => exact ⟨k + 1, by omega, by simp, by rw [hno'.out]; exact hJs, hkr⟩
          case measure => simp [intOf]; omega
      · obtain rfl : k = axis.length := by omega
        have hal := bendsTo_all axis lo hi
        by_cases h3 : lo < hi
        · rw [if_pos h3] at hal
          obtain ⟨fn, tmps, assign, body, hy, hR⟩ := hY _ _ [] wr hal hJs hkr.size (n - 1)
          have hal' := Lib.hid hal
          clear hal
          gi_wp2
          refine hR.mono ?_
          rintro e W3 ⟨hk3, ⟨rfl, hJ3⟩ | ⟨rfl, hJx3⟩⟩
          · gi_wp2
            go_end0
            exact ⟨⟨_, rfl⟩, .inl (by rw [hal'.out]; exact hJ3)⟩
          · gi_wp2
            go_end0
            exact ⟨⟨_, rfl⟩, .inr ⟨_, by rw [hal'.out]; exact List.prefix_refl _, hJx3⟩⟩
        · rw [if_neg h3, List.append_nil] at hal
          have h3' : decide (lo < hi) = false := by simpa using h3
          have hal' := Lib.hid hal
          clear hal
          gi_wp2
          go_end0
          exact ⟨⟨_, rfl⟩, .inl (by rw [hal'.out]; exact hJs)⟩
  · gi_wp2
    refine bodyPost_ret (results_none rfl _ _ _) rfl ?_
    exact ⟨⟨_, rfl⟩, .inr ⟨_, ⟨_, rfl⟩, hJx1⟩⟩

set_option maxHeartbeats 1000000 in
theorem bends_in (F : Fence) (n : Nat) (hF : F.fn 80) (hro : F.round = none) (sv : Value) (lo hi : Int) (hsv : ∃ A len cap, sv = .slice A len cap) (w : World) :
    CallsIn F n Try.prog 80 #[sv, .agg #[.int .i64 lo, .int .i64 hi]] w fun e w' =>
      e = .returned (.func (.func 86) #[] #[.pointer (some ⟨w.heap.size + 1, 0, none⟩), .pointer (some ⟨w.heap.size, 0, none⟩)]) ∧ w' = (w.alloc (.cells #[sv] 22)).alloc (.cells #[.int .i64 lo, .int .i64 hi] 27) := by
  obtain ⟨A, len, cap, rfl⟩ := hsv
  refine callsIn_of_wp Try.func80 rfl hF ?_ hro
  simp only [Try.ntmps80, List.size_toArray, List.length_cons, List.length_nil, Nat.reduceAdd, Nat.reduceSub, Array.replicate_succ, Array.replicate_zero, List.push_toArray, List.append_toArray, List.nil_append, List.cons_append]
  gi_wp2
  go_ret
  exact ⟨rfl, rfl⟩

theorem bends_seq (F : Fence) (hF : F.fn 86) (hd : F.depth = none) (hro : F.round = none) (Bs Ba b off cap : Nat) (axis : List Int) (lo hi : Int) (hlen : axis.length ≤ 1000) (D : Nat → Prop) (w : World)
    (hBs : Bs < w.heap.size ∧ D Bs) (hBa : Ba < w.heap.size ∧ D Ba) (hb : b < w.heap.size ∧ D b)
    (hlo : w.cell? ⟨Bs, 0, none⟩ = some (.int .i64 lo)) (hhi : w.cell? ⟨Bs, 1, none⟩ = some (.int .i64 hi)) (hax : w.cell? ⟨Ba, 0, none⟩ = some (.slice (some ⟨b, off, none⟩) axis.length cap))
    (hc : ∀ j, j < axis.length → w.cell? ⟨b, off + j, none⟩ = some (.int .i64 (axis[j]?.getD 0))) :
    SeqB F Try.prog 86 #[.pointer (some ⟨Bs, 0, none⟩), .pointer (some ⟨Ba, 0, none⟩)] (fun x : Int => #[Value.int .i64 x]) (bendsL axis lo hi) D w := by
  intro n l J Jx W C hW hC hD hJ hJx hY h0
  have hz := hW.size
  exact bends1_in F n hF hd hro l Bs Ba b off cap axis lo hi hlen C J Jx W hY ⟨by omega, hD _ hBs.2⟩ ⟨by omega, hD _ hBa.2⟩ ⟨by omega, hD _ hb.2⟩
    ((hW.cell (p := ⟨Bs, 0, none⟩) hBs.1).trans hlo) ((hW.cell (p := ⟨Bs, 1, none⟩) hBs.1).trans hhi) ((hW.cell (p := ⟨Ba, 0, none⟩) hBa.1).trans hax)
    (fun j hj => (hW.cell (p := ⟨b, off + j, none⟩) hb.1).trans (hc j hj)) h0
end Go.Proofs.Ytcghafdemklnnaa
