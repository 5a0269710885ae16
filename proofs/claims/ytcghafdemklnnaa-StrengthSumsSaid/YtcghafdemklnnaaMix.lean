/- Mix, whatever the parts are. -/
import Derived.Test.YtcghafdemklnnaaWater
namespace Go.Proofs.Ytcghafdemklnnaa
open Go.RowKit Go.Sort
attribute [local go_sem] Oper.calm Oper.calmAt Oper.calmUpon

/-- what becomes of an amount of al to ah, with pl to ph of alcohol -/
def mixAl (al s : Int) : Int := al * (10000 - s) / 10000
def mixSl (ah pl : Int) : Int := pl * 10000 / ah
def mixSh (al ph s : Int) : Int := min (upDiv (ph * 10000 * 10000) (al * (10000 - s))) 10000

set_option maxHeartbeats 4000000 in
set_option maxRecDepth 100000 in
theorem mixture_any {M : Int} (hM : Hid (DivFor M)) (al ah pl ph s : Int) (w : World) (a1 : 1 ≤ al) (a2 : al ≤ ah) (a3 : ah ≤ 1099511627776) (p1 : 0 ≤ pl) (p2 : pl ≤ ah) (p3 : 0 ≤ ph) (p4 : ph ≤ 1099511627776) (s1 : 0 ≤ s) (s2 : s ≤ 1000) (hbig : Hid (ph * 100000000 < M)) :
    Calls Try.prog 69 #[.agg #[.int .i64 al, .int .i64 ah], .agg #[.int .i64 pl, .int .i64 ph], .int .i64 s] w fun e w' => e = .returned (.agg #[.int .i64 (mixAl al s), .int .i64 ah, .int .i64 (mixSl ah pl), .int .i64 (mixSh al ph s)]) ∧ Below w.heap.size w w' := by
  have e1 : al * 9000 ≤ al * (10000 - s) := Int.mul_le_mul_of_nonneg_left (by omega) (by omega)
  have e2 : al * (10000 - s) ≤ al * 10000 := Int.mul_le_mul_of_nonneg_left (by omega) (by omega)
  have hbig' := hbig.out
  have hb1 : hM.out = hM.out := rfl
  have e3 : ph * 10000 * 10000 / (al * (10000 - s)) ≤ ph * 10000 * 10000 / 9000 := by
    rw [Int.le_ediv_iff_mul_le (by omega)]
    have e4 := Int.ediv_mul_le (ph * 10000 * 10000) (show al * (10000 - s) ≠ 0 by omega)
    have e5 : 0 ≤ ph * 10000 * 10000 / (al * (10000 - s)) := Int.ediv_nonneg (by omega) (by omega)
    have e6 : ph * 10000 * 10000 / (al * (10000 - s)) * 9000 ≤ ph * 10000 * 10000 / (al * (10000 - s)) * (al * (10000 - s)) := Int.mul_le_mul_of_nonneg_left (by omega) e5
    omega
  have e7 : 0 ≤ ph * 10000 * 10000 / (al * (10000 - s)) := Int.ediv_nonneg (by omega) (by omega)
  have e8 : pl * 10000 / ah ≤ 10000 := by
    have : pl * 10000 / ah < 10001 := by
      rw [Int.ediv_lt_iff_lt_mul (by omega)]
      omega
    omega
  have e9 : 0 ≤ pl * 10000 / ah := Int.ediv_nonneg (by omega) (by omega)
  have hfin := Lib.hid (show ∀ l u v : Int, al * (10000 - s) = l → upDiv (ph * 10000 * 10000) l = u → pl * 10000 / ah = v → Ending.returned (.agg #[.int .i64 (l / 10000), .int .i64 ah, .int .i64 v, .int .i64 (min u 10000)]) = .returned (.agg #[.int .i64 (mixAl al s), .int .i64 ah, .int .i64 (mixSl ah pl), .int .i64 (mixSh al ph s)]) by rintro _ _ _ rfl rfl rfl; rfl)
  have hml : IntKind.i64.wrap (al * (10000 - s)) = al * (10000 - s) := IntWalk.i64_in _ (by omega)
  generalize hl : al * (10000 - s) = l at *
  obtain ⟨u, hu⟩ : ∃ u, upDiv (ph * 10000 * 10000) l = u := ⟨_, rfl⟩
  obtain ⟨v, hv⟩ : ∃ v, pl * 10000 / ah = v := ⟨_, rfl⟩
  have u1 := @upDiv_bd (ph * 10000 * 10000) l
  rw [hu] at u1
  replace hfin := Lib.hid (hfin.out l u v rfl hu hv)
  have hup := Lib.hid fun W => partUp_any hM.out (ph * 10000) 10000 l u W (by omega) (by omega) (by omega) (by omega) (by omega) (by omega) (by omega) hu (by omega)
  have hdn := Lib.hid fun W => partDown_any divFor_small pl 10000 ah v W (by omega) (by omega) (by omega) (by omega) (by omega) (by omega) (by omega) hv (by omega)
  have l1 : 9000 ≤ l := by omega
  have l2 : l ≤ 10995116277760000 := by omega
  have u2 : 0 ≤ u := by omega
  have u3 : u ≤ 9223372036854775807 := by omega
  rw [hv] at e8 e9
  have ht : l.tdiv 10000 = l / 10000 := Int.tdiv_eq_ediv_of_nonneg (by omega)
  clear hu hv u1 e1 e2 e3 e7 hbig' hb1 hbig hM
  go_enter Try.func69, Try.ntmps69
  go_wp2_with fail
  refine calls_world (fun W => Below w.heap.size w W ∧ Blk W w.heap.size 27 #[.int .i64 al, .int .i64 ah] ∧ Blk W (w.heap.size + 1) 27 #[.int .i64 pl, .int .i64 ph] ∧ Blk W (w.heap.size + 1 + 1) 41 #[.int .i64 0, .int .i64 0, .int .i64 0, .int .i64 0])
    ⟨(((Below.refl _ _).alloc (Nat.le_refl _) _).alloc (by simp) _).alloc (by simp; omega) _, ((Blk.new _ _ _).alloc _).alloc _, (blk_at (by simp)).alloc _, blk_at (by simp)⟩ ?_
  rintro W0 ⟨hB0, b0, b1, b2⟩
  refine (hup.out _).mono ?_
  rintro e W1 ⟨rfl, hb1⟩
  have hB1 := hB0.trans (hb1.mono hB0.size)
  replace b0 := b0.below hb1 b0.lt
  replace b1 := b1.below hb1 b1.lt
  replace b2 := b2.below hb1 b2.lt
  clear hup hb1 hB0 hml
  obtain ⟨x0, x1, _, _⟩ := b0.facts2
  obtain ⟨y0, y1, _, _⟩ := b1.facts2
  have x0' := fun d os => cell_regrown x0 d os
  have x1' := fun d os => cell_regrown x1 d os
  have y0' := fun d os => cell_regrown y0 d os
  have y1' := fun d os => cell_regrown y1 d os
  have hq : IntKind.i64.wrap (l.tdiv 10000) = l / 10000 := by rw [ht]; exact IntWalk.i64_in _ (by omega)
  go_upto_region 3 with fail
  refine wp_region_below_tail 14 (by kernel_rfl) (by kernel_rfl) ?_
  simp only [List.take_succ_cons, List.take_zero, List.drop_succ_cons, List.drop_zero]
  repeat (quiet_step (first | (go_at_call 61; exact quiet_call (fun W1 _ => hdn.out W1))))
  refine wpQuiet_nil ?_
  intro _ hw'
  obtain ⟨⟨dq, osq⟩, hw''⟩ := hw'
  subst hw''
  have hb2 := below_regrown W1 dq osq
  have hB2 := hB1.trans (hb2.mono hB1.size)
  replace b2 := b2.below hb2 b2.lt
  have hmin : (if 10000 < u then 10000 else u) = min u 10000 := by split <;> omega
  rw [← hmin] at hfin
  clear x0 x1 y0 y1 x0' x1' y0' y1' hdn hmin hb2 b0 b1 hB1
  generalize (if 10000 < u then 10000 else u) = z at *
  generalize grow (redrawn W1 dq) osq = W2 at *
  obtain ⟨r0, r1, r2, r3, _, _, _, _⟩ := b2.facts4
  have n2 := b2.lt
  go_wp2
  refine bodyPost_ret (v := .agg #[.int .i64 (l / 10000), .int .i64 ah, .int .i64 v, .int .i64 z]) (by simp [results, Try.results69, go_sem, r0, r1, r2, r3]) rfl ⟨hfin.out, ?_⟩
  exact (((hB2.setCell (by simp only; omega) _).setCell (by simp only; omega) _).setCell (by simp only; omega) _).setCell (by simp only; omega) _

theorem ret_world {P : Program} {fn : Func} {Post : Ending → World → Prop} {x : Exit} {a : Act} {w : World} (R : World → Prop) (hR : R w) (h : ∀ W, R W → bodyPost P fn Post x a W) : bodyPost P fn Post x a w := h w hR

/-- parts that lie one behind the other -/
def PartsAt (w : World) (A : Option Addr) (ps : List PartV) : Prop :=
  0 < ps.length → ∃ b off, A = some ⟨b, off, none⟩ ∧ b < w.heap.size ∧ ∀ i p, ps[i]? = some p → w.cell? ⟨b, off + i * 4, none⟩ = some (.int .i64 p.al) ∧ w.cell? ⟨b, off + i * 4 + 1, none⟩ = some (.int .i64 p.ah) ∧ w.cell? ⟨b, off + i * 4 + 2, none⟩ = some (.int .i64 p.sl) ∧ w.cell? ⟨b, off + i * 4 + 3, none⟩ = some (.int .i64 p.sh)
theorem PartsAt.below {w w' : World} {A : Option Addr} {ps : List PartV} (h : PartsAt w A ps) (hb : Below w.heap.size w w') : PartsAt w' A ps := fun h0 => by
  obtain ⟨b, off, h1, h2, h3⟩ := h h0
  refine ⟨b, off, h1, Nat.lt_of_lt_of_le h2 hb.size, fun i p hp => ?_⟩
  obtain ⟨k1, k2, k3, k4⟩ := h3 i p hp
  exact ⟨(hb.cell (p := ⟨b, _, none⟩) h2).trans k1, (hb.cell (p := ⟨b, _, none⟩) h2).trans k2, (hb.cell (p := ⟨b, _, none⟩) h2).trans k3, (hb.cell (p := ⟨b, _, none⟩) h2).trans k4⟩

def sumI (f : PartV → Int) (ps : List PartV) : Int := (ps.map f).sum
theorem sumI_take {f : PartV → Int} {ps : List PartV} {k : Nat} {p : PartV} (h : ps[k]? = some p) : sumI f (ps.take (k + 1)) = sumI f (ps.take k) + f p := by
  unfold sumI
  rw [List.take_add_one, h]
  simp
theorem sumI_bd {f : PartV → Int} {B : Int} (hB : 0 ≤ B) : ∀ (ps : List PartV), (∀ p ∈ ps, 0 ≤ f p ∧ f p ≤ B) → 0 ≤ sumI f ps ∧ sumI f ps ≤ ps.length * B
  | [], _ => by simp [sumI]
  | p :: ps, h => by
    have h1 := h p (by simp)
    have h2 := sumI_bd hB ps (fun q hq => h q (by simp [hq]))
    simp only [sumI, List.map_cons, List.sum_cons, List.length_cons] at h2 ⊢
    have : ((ps.length + 1 : Nat) : Int) * B = ps.length * B + B := by rw [Int.natCast_add, Int.add_mul]; simp
    omega

set_option maxHeartbeats 4000000 in
set_option maxRecDepth 100000 in
theorem sums_any (A : Option Addr) (c : Nat) (ps : List PartV) (w : World) (hn : ps.length ≤ 64) (hp : Hid (PartsAt w A ps)) (hok : Hid (∀ p ∈ ps, PartOk p)) :
    Calls Try.prog 68 #[.slice A ps.length c] w fun e w' => e = .returned (.tuple #[.agg #[.int .i64 (sumI (·.al) ps), .int .i64 (sumI (·.ah) ps)], .agg #[.int .i64 (sumI pureLo ps), .int .i64 (sumI pureHi ps)]]) ∧ Below w.heap.size w w' := by
  go_enter Try.func68, Try.ntmps68
  go_wp2
  go_loopw [9] (fun i wr => ∃ k : Nat, k ≤ ps.length ∧ i = .int .i64 k ∧ Below w.heap.size w wr ∧ Blk wr w.heap.size 27 #[.int .i64 (sumI (·.al) (ps.take k)), .int .i64 (sumI (·.ah) (ps.take k))] ∧ Blk wr (w.heap.size + 1) 27 #[.int .i64 (sumI pureLo (ps.take k)), .int .i64 (sumI pureHi (ps.take k))]) (fun i _ => ps.length - (intOf i).toNat)
  case atStart => exact ⟨0, Nat.zero_le _, rfl, ((Below.refl _ _).alloc (Nat.le_refl _) _).alloc (by simp) _, (Blk.new _ _ _).alloc _, blk_at (by simp)⟩
  case round =>
    obtain ⟨k, hk, rfl, hB0, b0, b1⟩ := hrel
    by_cases hlt : k < ps.length
    · obtain ⟨b, off, hA, hbl, hcells⟩ := hp.out (by omega)
      obtain ⟨p, hpk⟩ : ∃ p, ps[k]? = some p := ⟨_, List.getElem?_eq_getElem hlt⟩
      obtain ⟨k1, k2, k3, k4⟩ := hcells k p hpk
      have k1' := cell_later hB0 k1
      have k2' := cell_later hB0 k2
      have k3' := cell_later hB0 k3
      have k4' := cell_later hB0 k4
      have hpo := hok.out p (List.mem_of_getElem? hpk)
      have htk : ∀ f, (∀ q, PartOk q → 0 ≤ f q ∧ f q ≤ 1099511627776) → 0 ≤ sumI f (ps.take k) ∧ sumI f (ps.take k) ≤ 70368744177664 := fun f hf => by
        have := sumI_bd (f := f) (B := 1099511627776) (by omega) (ps.take k) (fun q hq => hf q (hok.out q (List.mem_of_mem_take hq)))
        have hl : (ps.take k).length ≤ 64 := by simp; omega
        have : ((ps.take k).length : Int) * 1099511627776 ≤ 64 * 1099511627776 := Int.mul_le_mul_of_nonneg_right (by omega) (by omega)
        omega
      have s1 := htk (·.al) (fun q hq => by have := hq.1; exact ⟨by omega, by omega⟩)
      have s2 := htk (·.ah) (fun q hq => by have := hq.1; exact ⟨by omega, by omega⟩)
      have s3 := htk pureLo (fun q hq => by have := pure_bd hq; exact ⟨by omega, by omega⟩)
      have s4 := htk pureHi (fun q hq => by have := pure_bd hq; exact ⟨by omega, by omega⟩)
      have hnx1 := sumI_take (f := (·.al)) hpk
      have hnx2 := sumI_take (f := (·.ah)) hpk
      have hnx3 := sumI_take (f := pureLo) hpk
      have hnx4 := sumI_take (f := pureHi) hpk
      obtain ⟨al, ah, sl, sh⟩ := p
      have hpb := pure_bd hpo
      have hpu := Lib.hid fun W => pure_any al ah sl sh W hpo
      dsimp only at k1' k2' k3' k4' hnx1 hnx2 hpu
      subst hA
      obtain ⟨⟨o1, o2, o3⟩, o4, o5, o6⟩ := hpo
      dsimp only at o1 o2 o3
      clear k1 k2 k3 k4 hcells htk hp hok
      generalize pureLo ⟨al, ah, sl, sh⟩ = ql at *
      generalize pureHi ⟨al, ah, sl, sh⟩ = qh at *
      replace hnx1 := Lib.hid hnx1
      replace hnx2 := Lib.hid hnx2
      replace hnx3 := Lib.hid hnx3
      replace hnx4 := Lib.hid hnx4
      generalize sumI (·.al) (ps.take k) = a1 at *
      generalize sumI (·.ah) (ps.take k) = a2 at *
      generalize sumI pureLo (ps.take k) = a3 at *
      generalize sumI pureHi (ps.take k) = a4 at *
      have n0 := b1.lt
      have n00 := hB0.size
      go_wp2_with fail
      refine calls_world (fun W => Below w.heap.size w W ∧ Blk W w.heap.size 27 #[.int .i64 a1, .int .i64 a2] ∧ Blk W (w.heap.size + 1) 27 #[.int .i64 a3, .int .i64 a4] ∧ Blk W wr.heap.size 41 #[.int .i64 al, .int .i64 ah, .int .i64 sl, .int .i64 sh]) ⟨hB0.alloc hB0.size _, b0.alloc _, b1.alloc _, Blk.new _ _ _⟩ ?_
      clear b0 b1 hB0 k1' k2' k3' k4'
      generalize hg5 : wr.heap.size = g5 at *
      clear hg5
      rintro W0 ⟨hB0, b0, b1, bp⟩
      refine (hpu.out _).mono ?_
      rintro e W1 ⟨rfl, hb1⟩
      have hB1 := hB0.trans (hb1.mono hB0.size)
      replace b0 := b0.below hb1 b0.lt
      replace b1 := b1.below hb1 b1.lt
      replace bp := bp.below hb1 bp.lt
      clear hb1 hB0 hpu
      go_upto_region 5 with fail
      refine wp_world (fun W => Below w.heap.size w W ∧ Blk W w.heap.size 27 #[.int .i64 a1, .int .i64 a2] ∧ Blk W (w.heap.size + 1) 27 #[.int .i64 a3, .int .i64 a4] ∧ Blk W g5 41 #[.int .i64 al, .int .i64 ah, .int .i64 sl, .int .i64 sh] ∧ Blk W W1.heap.size 27 #[.int .i64 ql, .int .i64 qh]) ⟨hB1.alloc hB1.size _, b0.alloc _, b1.alloc _, bp.alloc _, Blk.new _ _ _⟩ ?_
      have n1 := b1.lt
      clear b0 b1 bp hB1
      generalize W1.heap.size = g6 at *
      rintro W2 ⟨hB2, b0, b1, bp, bq⟩
      obtain ⟨x0, x1, x2, x3⟩ := b0.facts2
      obtain ⟨y0, y1, y2, y3⟩ := b1.facts2
      obtain ⟨z0, z1, z2, z3, _, _, _, _⟩ := bp.facts4
      obtain ⟨q0, q1, _, _⟩ := bq.facts2
      go_upto_region 6 with fail
      refine wp_world (fun W => Below w.heap.size w W ∧ Blk W w.heap.size 27 #[.int .i64 (a1 + al), .int .i64 (a2 + ah)] ∧ Blk W (w.heap.size + 1) 27 #[.int .i64 a3, .int .i64 a4] ∧ Blk W g6 27 #[.int .i64 ql, .int .i64 qh])
        ⟨(hB2.setCell (by simp only; omega) _).setCell (by simp only; omega) _, (b0.set_ 0 _).set_ 1 _, (b1.far (by simp only; omega) _).far (by simp only; omega) _, (bq.far (by simp only; omega) _).far (by simp only; omega) _⟩ ?_
      clear b0 b1 bp bq hB2 x0 x1 x2 x3 y0 y1 y2 y3 z0 z1 z2 z3 q0 q1
      rintro W3 ⟨hB3, b0, b1, bq⟩
      obtain ⟨y0, y1, y2, y3⟩ := b1.facts2
      obtain ⟨q0, q1, _, _⟩ := bq.facts2
      go_wp2_with fail
      go_roundw
      case rel => exact ⟨k + 1, by omega, by go_num, (hB3.setCell (by simp only; omega) _).setCell (by simp only; omega) _, by rw [hnx1.out, hnx2.out]; exact (b0.far (by simp only; omega) _).far (by simp only; omega) _, by rw [hnx3.out, hnx4.out]; exact (b1.set_ 0 _).set_ 1 _⟩
      case measure => simp [intOf]; omega
    · have hk' : k = ps.length := by omega
      subst hk'
      rw [List.take_length] at b0 b1
      have hfin := Lib.hid (show ∀ a1 a2 a3 a4 : Int, sumI (·.al) ps = a1 → sumI (·.ah) ps = a2 → sumI pureLo ps = a3 → sumI pureHi ps = a4 → Ending.returned (.tuple #[.agg #[.int .i64 a1, .int .i64 a2], .agg #[.int .i64 a3, .int .i64 a4]]) = .returned (.tuple #[.agg #[.int .i64 (sumI (·.al) ps), .int .i64 (sumI (·.ah) ps)], .agg #[.int .i64 (sumI pureLo ps), .int .i64 (sumI pureHi ps)]]) by rintro _ _ _ _ rfl rfl rfl rfl; rfl)
      generalize h1 : sumI (·.al) ps = a1 at b0
      generalize h2 : sumI (·.ah) ps = a2 at b0
      generalize h3 : sumI pureLo ps = a3 at b1
      generalize h4 : sumI pureHi ps = a4 at b1
      replace hfin := Lib.hid (hfin.out a1 a2 a3 a4 h1 h2 h3 h4)
      clear h1 h2 h3 h4
      have n1 := b1.lt
      obtain ⟨x0, x1, x2, x3⟩ := b0.facts2
      obtain ⟨y0, y1, y2, y3⟩ := b1.facts2
      go_upto_region 8 with fail
      go_region
      go_wp2
      refine ret_world (fun W => Below w.heap.size w W ∧ Blk W w.heap.size 27 #[.int .i64 a1, .int .i64 a2] ∧ Blk W (w.heap.size + 1) 27 #[.int .i64 a3, .int .i64 a4])
        ⟨((((hB0.setCell (by simp only; omega) _).setCell (by simp only; omega) _).setCell (by simp only; omega) _).setCell (by simp only; omega) _).drew, ((((b0.set_ 0 _).set_ 1 _).far (by simp only; omega) _).far (by simp only; omega) _).drew, ((((b1.far (p := ⟨w.heap.size, 0, none⟩) (by simp only; omega) _).far (p := ⟨w.heap.size, 1, none⟩) (by simp only; omega) _).set_ 0 _).set_ 1 _).drew⟩ ?_
      clear b0 b1 hB0 x0 x1 x2 x3 y0 y1 y2 y3
      rintro W ⟨hB, b0, b1⟩
      obtain ⟨x0, x1, _, _⟩ := b0.facts2
      obtain ⟨y0, y1, _, _⟩ := b1.facts2
      refine bodyPost_ret (v := .tuple #[.agg #[.int .i64 a1, .int .i64 a2], .agg #[.int .i64 a3, .int .i64 a4]]) (by simp [results, Try.results68, go_sem, x0, x1, y0, y1]) rfl ⟨hfin.out, hB⟩
end Go.Proofs.Ytcghafdemklnnaa
