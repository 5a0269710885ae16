/- What fractions, spans and places of package strength return, as numbers: floor, ceil, less, more, validSpan, within, between, width. -/
import Derived.Test.YtcghafdemklnnaaProg
import Derived.WalkKit
import Derived.WalkSpells
import Derived.WalkLawsBesides
import Derived.Deep.RegionWith
import Derived.IntWalk
import Derived.Lib.Hide
import Derived.Deep.RegionHeld3
namespace Go.Proofs.Ytcghafdemklnnaa
open Go.RowKit

theorem ret_int {k : IntKind} {a b : Int} (h : a = b) : Ending.returned (.int k a) = .returned (.int k b) := by rw [h]
theorem ret_bool {a b : Bool} (h : a = b) : Ending.returned (.bool a) = .returned (.bool b) := by rw [h]

theorem bcell {W w1 : World} (hb : Below W.heap.size W w1) : (∀ b o, b < W.heap.size → w1.cell? ⟨b, o, none⟩ = W.cell? ⟨b, o, none⟩) ∧ (∀ b o, b < W.heap.size → w1.frozen? ⟨b, o, none⟩ = W.frozen? ⟨b, o, none⟩) :=
  ⟨fun b o h => hb.cell (p := ⟨b, o, none⟩) h, fun b o h => hb.frozen (p := ⟨b, o, none⟩) h⟩

theorem cell_on {w w1 : World} (hb : Below w.heap.size w w1) {b o B : Nat} {v : Value} (h : w.cell? ⟨b, o, none⟩ = some v) (hz : B ≤ w.heap.size) (hlt : b < B) : w1.cell? ⟨b, o, none⟩ = some v := (hb.cell (p := ⟨b, o, none⟩) (Nat.lt_of_lt_of_le hlt hz)).trans h
theorem below_on {w w1 w0 : World} (hb : Below w.heap.size w w1) {B C : Nat} (h : Below B w0 w) (hz : C ≤ w.heap.size) (hlt : B ≤ C) : Below B w0 w1 := h.trans (hb.mono (Nat.le_trans hlt hz))
theorem size_on {w w1 : World} (hb : Below w.heap.size w w1) {C : Nat} (hz : C ≤ w.heap.size) : C ≤ w1.heap.size := Nat.le_trans hz hb.size

theorem less_eq {a b c d : Int} (h : a / b = c / d) : ((a - a / b * b) * d < (c - c / d * d) * b) ↔ (a * d < c * b) := by
  rw [h]
  grind
theorem less_of_lt {a b c d : Int} (hb : 0 < b) (hd : 0 < d) (h : a / b < c / d) : a * d < c * b := by
  have h1 : a < (a / b + 1) * b := Int.lt_mul_of_ediv_lt hb (by omega)
  have h2 : (a / b + 1) * b ≤ (c / d) * b := Int.mul_le_mul_of_nonneg_right (by omega) (by omega)
  have h3 : (c / d) * d ≤ c := Int.ediv_mul_le c (by omega)
  have h4 : a * d < (c / d) * b * d := Int.mul_lt_mul_of_pos_right (by omega) hd
  have h5 : (c / d) * b * d = (c / d) * d * b := by rw [Int.mul_assoc, Int.mul_comm b d, Int.mul_assoc]
  have h6 : (c / d) * d * b ≤ c * b := Int.mul_le_mul_of_nonneg_right h3 (by omega)
  omega
theorem less_ne {a b c d : Int} (hb : 0 < b) (hd : 0 < d) (h : a / b ≠ c / d) : (a / b < c / d) ↔ (a * d < c * b) := by
  constructor
  · exact less_of_lt hb hd
  · intro h'
    rcases Int.lt_or_gt_of_ne h with h1 | h1
    · exact h1
    · have := less_of_lt hd hb h1; omega
theorem mul_bd {x y X Y : Int} (h1 : 0 ≤ x) (h2 : x ≤ X) (h3 : 0 ≤ y) (h4 : y ≤ Y) : 0 ≤ x * y ∧ x * y ≤ X * Y :=
  ⟨Int.mul_nonneg h1 h3, Int.le_trans (Int.mul_le_mul_of_nonneg_right h2 h3) (Int.mul_le_mul_of_nonneg_left h4 (by omega))⟩
theorem rest_bd (a : Int) {b : Int} (hb : 0 < b) : 0 ≤ a - a / b * b ∧ a - a / b * b ≤ b := by
  have h1 := Int.emod_add_mul_ediv a b
  have h2 := Int.emod_nonneg a (by omega : b ≠ 0)
  have h3 := Int.emod_lt_of_pos a hb
  have h4 := Int.mul_comm (a / b) b
  omega

/-- since w0 only new blocks and what lies in them have turned; C blocks lie; the cells hold -/
structure Held (w0 : World) (xs : List (Nat × Nat × Value)) (C : Nat) (w : World) : Prop where
  below : Below w0.heap.size w0 w
  size : C ≤ w.heap.size
  base : w0.heap.size ≤ C
  cells : ∀ b o v, (b, o, v) ∈ xs → b < C ∧ w.cell? ⟨b, o, none⟩ = some v
theorem Held.on {w0 w w1 : World} {xs : List (Nat × Nat × Value)} {C : Nat} (hb : Below w.heap.size w w1) (h : Held w0 xs C w) : Held w0 xs C w1 :=
  ⟨below_on hb h.below h.size h.base, size_on hb h.size, h.base, fun b o v hm => ⟨(h.cells b o v hm).1, cell_on hb (h.cells b o v hm).2 h.size (h.cells b o v hm).1⟩⟩
theorem Held.drew {w0 w : World} {xs : List (Nat × Nat × Value)} {C : Nat} (h : Held w0 xs C w) : Held w0 xs C w.drew := ⟨h.below.drew, h.size, h.base, h.cells⟩
theorem Held.alloc {w0 w : World} {xs : List (Nat × Nat × Value)} {C : Nat} (h : Held w0 xs C w) (o : Obj) : Held w0 xs C (w.alloc o) := h.on ((Below.refl _ _).alloc (Nat.le_refl _) o)
theorem Held.cell {w0 w : World} {xs : List (Nat × Nat × Value)} {C : Nat} (h : Held w0 xs C w) {b o : Nat} {v : Value} (hm : (b, o, v) ∈ xs) : w.cell? ⟨b, o, none⟩ = some v := (h.cells b o v hm).2

theorem Held.setCell {w0 w : World} {xs : List (Nat × Nat × Value)} {C : Nat} (h : Held w0 xs C w) {p : Addr} (u : Value) (hp : C ≤ p.block) : Held w0 xs C (w.setCell p u) :=
  ⟨h.below.setCell (Nat.le_trans h.base hp) u, by simpa [World.setCell] using h.size, h.base, fun b o v hm => ⟨(h.cells b o v hm).1, ((Below.setCell (B := C) (Below.refl C w) hp u).cell (p := ⟨b, o, none⟩) (h.cells b o v hm).1).trans (h.cells b o v hm).2⟩⟩
theorem Held.all2 {w0 w : World} {xs : List (Nat × Nat × Value)} {C : Nat} {b0 o0 b1 o1 : Nat} {v0 v1 : Value} (hm : Hid ((b0, o0, v0) ∈ xs ∧ (b1, o1, v1) ∈ xs)) (h : Held w0 xs C w) :
    Held w0 xs C w ∧ C ≤ w.heap.size ∧ w.cell? ⟨b0, o0, none⟩ = some v0 ∧ w.cell? ⟨b1, o1, none⟩ = some v1 :=
  ⟨h, h.size, h.cell hm.out.1, h.cell hm.out.2⟩
theorem Held.all4 {w0 w : World} {xs : List (Nat × Nat × Value)} {C : Nat} {b0 o0 b1 o1 b2 o2 b3 o3 : Nat} {v0 v1 v2 v3 : Value} (hm : Hid ((b0, o0, v0) ∈ xs ∧ (b1, o1, v1) ∈ xs ∧ (b2, o2, v2) ∈ xs ∧ (b3, o3, v3) ∈ xs)) (h : Held w0 xs C w) :
    Held w0 xs C w ∧ w.cell? ⟨b0, o0, none⟩ = some v0 ∧ w.cell? ⟨b1, o1, none⟩ = some v1 ∧ w.cell? ⟨b2, o2, none⟩ = some v2 ∧ w.cell? ⟨b3, o3, none⟩ = some v3 :=
  ⟨h, h.cell hm.out.1, h.cell hm.out.2.1, h.cell hm.out.2.2.1, h.cell hm.out.2.2.2⟩

theorem tdiv_floor_neg {a b : Int} (hb : 0 < b) (h : a.tmod b < 0) : a.tdiv b - 1 = a / b := by
  rw [Int.tdiv_eq_ediv]
  rw [Int.tmod_eq_emod] at h
  have h3 := Int.emod_nonneg a (by omega : b ≠ 0)
  split at h
  · omega
  · rename_i hc
    rw [if_neg hc]
    have : b.sign = 1 := Int.sign_eq_one_of_pos hb
    omega
theorem tdiv_floor_pos {a b : Int} (hb : 0 < b) (h : 0 ≤ a.tmod b) : a.tdiv b = a / b := by
  rw [Int.tdiv_eq_ediv]
  rw [Int.tmod_eq_emod] at h
  have h4 := Int.emod_lt_of_pos a hb
  split at h
  · rename_i hc; rw [if_pos hc]; omega
  · omega
/-- a / b is between a and 0 -/
theorem ediv_bd {a b : Int} (hb : 0 < b) (B : Int) (h1 : -B ≤ a) (h2 : a ≤ B) (hB : 0 ≤ B) : -B ≤ a / b ∧ a / b ≤ B := by
  constructor
  · rw [Int.le_ediv_iff_mul_le hb]
    have : -B * b ≤ -B * 1 := Int.mul_le_mul_of_nonpos_left (by omega) (by omega)
    omega
  · have : a / b < B + 1 := by
      rw [Int.ediv_lt_iff_lt_mul hb]
      have : (B + 1) * 1 ≤ (B + 1) * b := Int.mul_le_mul_of_nonneg_left (by omega) (by omega)
      omega
    omega
theorem tdiv_bd {a b : Int} (hb : 0 < b) (B : Int) (h1 : -B ≤ a) (h2 : a ≤ B) (hB : 0 ≤ B) : -B ≤ a.tdiv b ∧ a.tdiv b ≤ B := by
  rcases Int.lt_or_le (a.tmod b) 0 with h | h
  · have := tdiv_floor_neg hb h
    have h3 := ediv_bd hb B h1 h2 hB
    constructor
    · omega
    · have ha : a < 0 := by
        rcases Int.lt_or_le a 0 with h' | h'
        · exact h'
        · have := Int.tmod_nonneg b h'; omega
      have : a.tdiv b ≤ 0 := by
        have : a.tdiv b = -((-a).tdiv b) := by rw [Int.neg_tdiv]; omega
        have : 0 ≤ (-a).tdiv b := Int.tdiv_nonneg (by omega) (by omega)
        omega
      omega
  · rw [tdiv_floor_pos hb h]; exact ediv_bd hb B h1 h2 hB

set_option maxHeartbeats 400000 in
theorem floor_any (a b : Int) (w : World) (ha : -4611686018427387904 ≤ a) (ha' : a ≤ 4611686018427387904) (hb : 0 < b) (hb' : b ≤ 4611686018427387904) :
    Calls Try.prog 51 #[.agg #[.int .i64 a, .int .i64 b]] w fun e w' => e = .returned (.int .i64 (a / b)) ∧ Below w.heap.size w w' := by
  obtain ⟨hd1, hd2⟩ := tdiv_bd hb 4611686018427387904 ha ha' (by omega)
  go_enter Try.func51, Try.ntmps51
  go_wp2
  · have hn : a.tmod b < 0 := by assumption
    go_ret
    exact ⟨ret_int (tdiv_floor_neg hb hn), (Below.refl _ _).alloc (Nat.le_refl _) _⟩
  · have hn : 0 ≤ a.tmod b := by assumption
    go_ret
    exact ⟨ret_int (tdiv_floor_pos hb hn), (Below.refl _ _).alloc (Nat.le_refl _) _⟩

def cdiv (a b : Int) : Int := -((-a) / b)
theorem cdiv_of_lt {a b : Int} (hb : 0 < b) (h : a / b * b < a) : a / b + 1 = cdiv a b := by
  unfold cdiv
  have h1 := Int.emod_add_mul_ediv a b
  have h3 := Int.emod_lt_of_pos a hb
  have h4 := Int.mul_comm (a / b) b
  have : (-a) / b = -(a / b) - 1 := by
    rw [Int.ediv_eq_iff_of_pos hb]
    have : b * (-(a / b) - 1) = -(b * (a / b)) - b := by rw [Int.mul_sub, Int.mul_neg]; omega
    have := Int.mul_comm b (-(a / b) - 1)
    constructor
    · omega
    · have : (-(a / b) - 1 + 1) * b = -(a / b) * b := by congr 1; omega
      have : -(a / b) * b = -(a / b * b) := by rw [Int.neg_mul]
      omega
  omega
theorem cdiv_of_le {a b : Int} (hb : 0 < b) (h : a ≤ a / b * b) : a / b = cdiv a b := by
  unfold cdiv
  have h1 := Int.emod_add_mul_ediv a b
  have h3 := Int.emod_nonneg a (by omega : b ≠ 0)
  have h4 := Int.mul_comm (a / b) b
  have : (-a) / b = -(a / b) := by
    rw [Int.ediv_eq_iff_of_pos hb]
    have e1 : -(a / b) * b = -(a / b * b) := by rw [Int.neg_mul]
    have e2 : (-(a / b) + 1) * b = -(a / b) * b + b := by rw [Int.add_mul]; omega
    constructor
    · omega
    · omega
  omega

set_option maxHeartbeats 400000 in
theorem ceil_any (a b : Int) (w : World) (ha : -4611686018427387904 ≤ a) (ha' : a ≤ 4611686018427387904) (hb : 0 < b) (hb' : b ≤ 4611686018427387904) :
    Calls Try.prog 52 #[.agg #[.int .i64 a, .int .i64 b]] w fun e w' => e = .returned (.int .i64 (cdiv a b)) ∧ Below w.heap.size w w' := by
  obtain ⟨hd1, hd2⟩ := ediv_bd hb 4611686018427387904 ha ha' (by omega)
  have hm1 := Int.emod_add_mul_ediv a b
  have hm2 := Int.emod_nonneg a (by omega : b ≠ 0)
  have hm3 := Int.emod_lt_of_pos a hb
  have hm4 := Int.mul_comm (a / b) b
  have hp1 : -9223372036854775808 ≤ a / b * b := by omega
  have hp2 : a / b * b ≤ 9223372036854775807 := by omega
  clear hm1 hm2 hm3 hm4
  go_enter Try.func52, Try.ntmps52
  go_wp2_with fail
  refine (floor_any a b _ ha ha' hb hb').mono ?_
  rintro e w1 ⟨rfl, hb1⟩
  obtain ⟨hc, hf⟩ := bcell hb1
  simp at hc hf
  go_wp2
  · have hn : a / b * b < a := by assumption
    go_ret
    exact ⟨ret_int (cdiv_of_lt hb hn), ((Below.refl _ _).alloc (Nat.le_refl _) _).trans (hb1.mono (by simp))⟩
  · have hn : a ≤ a / b * b := by assumption
    go_ret
    exact ⟨ret_int (cdiv_of_le hb hn), ((Below.refl _ _).alloc (Nat.le_refl _) _).trans (hb1.mono (by simp))⟩

set_option maxHeartbeats 400000 in
theorem less_any (a b c d : Int) (w : World) (ha : -4611686018427387904 ≤ a) (ha' : a ≤ 4611686018427387904) (hb : 0 < b) (hb' : b ≤ 2147483648)
    (hc : -4611686018427387904 ≤ c) (hc' : c ≤ 4611686018427387904) (hd : 0 < d) (hd' : d ≤ 2147483648) :
    Calls Try.prog 56 #[.agg #[.int .i64 a, .int .i64 b], .agg #[.int .i64 c, .int .i64 d]] w fun e w' => e = .returned (.bool (decide (a * d < c * b))) ∧ Below w.heap.size w w' := by
  obtain ⟨r1, r2⟩ := rest_bd a hb
  obtain ⟨s1, s2⟩ := rest_bd c hd
  obtain ⟨p1, p2⟩ := mul_bd r1 (Int.le_trans r2 hb') (Int.le_of_lt hd) hd'
  obtain ⟨q1, q2⟩ := mul_bd s1 (Int.le_trans s2 hd') (Int.le_of_lt hb) hb'
  simp only [Int.reduceMul] at p2 q2
  have u1 : -4611686020574871552 ≤ a / b * b ∧ a / b * b ≤ 4611686020574871552 := by omega
  have u2 : -4611686020574871552 ≤ c / d * d ∧ c / d * d ≤ 4611686020574871552 := by omega
  obtain ⟨u1, u1'⟩ := u1
  obtain ⟨u2, u2'⟩ := u2
  go_enter Try.func56, Try.ntmps56
  go_wp2_with fail
  obtain ⟨xs, hxs⟩ : ∃ xs : List (Nat × Nat × Value), xs = [(w.heap.size, 0, .int .i64 a), (w.heap.size, 1, .int .i64 b), (w.heap.size + 1, 0, .int .i64 c), (w.heap.size + 1, 1, .int .i64 d)] := ⟨_, rfl⟩
  have hH : Held w xs (w.heap.size + 2) ((w.alloc (Obj.cells #[Value.int IntKind.i64 a, Value.int IntKind.i64 b] 77)).alloc (Obj.cells #[Value.int IntKind.i64 c, Value.int IntKind.i64 d] 77)) := by
    subst hxs
    refine ⟨((Below.refl _ _).alloc (Nat.le_refl _) _).alloc (by simp) _, by simp, by omega, ?_⟩
    intro b' o' v' hm
    simp only [List.mem_cons, Prod.mk.injEq, List.not_mem_nil, or_false] at hm
    rcases hm with ⟨rfl, rfl, rfl⟩ | ⟨rfl, rfl, rfl⟩ | ⟨rfl, rfl, rfl⟩ | ⟨rfl, rfl, rfl⟩ <;> exact ⟨by omega, by go_simp⟩
  have hm0 : (w.heap.size, 0, .int .i64 a) ∈ xs := by simp [hxs]
  have hm1 : (w.heap.size, 1, .int .i64 b) ∈ xs := by simp [hxs]
  have hm2 : (w.heap.size + 1, 0, .int .i64 c) ∈ xs := by simp [hxs]
  have hm3 : (w.heap.size + 1, 1, .int .i64 d) ∈ xs := by simp [hxs]
  clear hxs
  have hM := Lib.hid (And.intro hm0 (And.intro hm1 (And.intro hm2 hm3)))
  clear hm0 hm1 hm2 hm3
  generalize ((w.alloc (Obj.cells #[Value.int IntKind.i64 a, Value.int IntKind.i64 b] 77)).alloc (Obj.cells #[Value.int IntKind.i64 c, Value.int IntKind.i64 d] 77)) = W at *
  go_region_held3 (fun w' => Held w xs (w.heap.size + 2) w' ∧ w'.cell? ⟨w.heap.size, 0, none⟩ = some (.int .i64 a) ∧ w'.cell? ⟨w.heap.size, 1, none⟩ = some (.int .i64 b) ∧ w'.cell? ⟨w.heap.size + 1, 0, none⟩ = some (.int .i64 c) ∧ w'.cell? ⟨w.heap.size + 1, 1, none⟩ = some (.int .i64 d))
    (first | exact Held.all4 hM (Held.on ‹Below _ _ _› (And.left ‹Held w xs _ _ ∧ _›)) | exact Held.all4 hM (Held.on ‹Below _ _ _› ‹Held w xs _ _›) | exact Held.all4 hM (Held.on ‹Below _ _ _› (Held.drew ‹Held w xs _ _›)) | exact Held.all4 hM (Held.drew ‹Held w xs _ _›))
    (first | (go_at_call 51; refine (floor_any _ _ _ (by omega) (by omega) (by omega) (by omega)).mono ?_; rintro e w1 ⟨rfl, hb1⟩))
  go_wp2
  · have hn : (a / b != c / d) = true := by assumption
    have hH' : Held w xs (w.heap.size + 2) _ := And.left ‹Held w xs _ _ ∧ _›
    go_ret
    exact ⟨ret_bool (decide_eq_decide.2 (less_ne hb hd (by simpa using hn))), hH'.below⟩
  · have hn : (a / b != c / d) = false := by assumption
    have hH' : Held w xs (w.heap.size + 2) _ := And.left ‹Held w xs _ _ ∧ _›
    go_ret
    exact ⟨ret_bool (decide_eq_decide.2 (less_eq (by simpa using hn))), hH'.below⟩
end Go.Proofs.Ytcghafdemklnnaa
