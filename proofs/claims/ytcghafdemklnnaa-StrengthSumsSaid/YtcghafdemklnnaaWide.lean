/- less of two fractions, one of which may be any whole number. -/
import Derived.Test.YtcghafdemklnnaaLow
namespace Go.Proofs.Ytcghafdemklnnaa
open Go.RowKit

set_option maxHeartbeats 400000 in
theorem floor_big (a b : Int) (w : World) (ha : -9223372036854775808 ≤ a) (ha' : a ≤ 9223372036854775807) (hb : 0 < b) (hb' : b ≤ 4611686018427387904) (hab : b = 1 ∨ (-4611686018427387904 ≤ a ∧ a ≤ 4611686018427387904)) :
    Calls Try.prog 51 #[.agg #[.int .i64 a, .int .i64 b]] w fun e w' => e = .returned (.int .i64 (a / b)) ∧ Below w.heap.size w w' := by
  rcases hab with rfl | ⟨h1, h2⟩
  · have d1 : a.tdiv 1 = a := Int.tdiv_one a
    have d2 : a.tmod 1 = 0 := Int.tmod_one a
    go_enter Try.func51, Try.ntmps51
    go_wp2
    go_ret
    exact ⟨ret_int (by rw [Int.ediv_one]), (Below.refl _ _).alloc (Nat.le_refl _) _⟩
  · exact floor_any a b w h1 h2 hb hb'

set_option maxHeartbeats 400000 in
theorem less_big (a b c d : Int) (w : World) (ha : -9223372036854775808 ≤ a) (ha' : a ≤ 9223372036854775807) (hb : 0 < b) (hb' : b ≤ 2147483648) (hab : b = 1 ∨ (-4611686018427387904 ≤ a ∧ a ≤ 4611686018427387904))
    (hc : -9223372036854775808 ≤ c) (hc' : c ≤ 9223372036854775807) (hd : 0 < d) (hd' : d ≤ 2147483648) (hcd : d = 1 ∨ (-4611686018427387904 ≤ c ∧ c ≤ 4611686018427387904)) :
    Calls Try.prog 56 #[.agg #[.int .i64 a, .int .i64 b], .agg #[.int .i64 c, .int .i64 d]] w fun e w' => e = .returned (.bool (decide (a * d < c * b))) ∧ Below w.heap.size w w' := by
  obtain ⟨r1, r2⟩ := rest_bd a hb
  obtain ⟨s1, s2⟩ := rest_bd c hd
  obtain ⟨p1, p2⟩ := mul_bd r1 (Int.le_trans r2 hb') (Int.le_of_lt hd) hd'
  obtain ⟨q1, q2⟩ := mul_bd s1 (Int.le_trans s2 hd') (Int.le_of_lt hb) hb'
  simp only [Int.reduceMul] at p2 q2
  have u1 : -9223372036854775808 ≤ a / b * b ∧ a / b * b ≤ 9223372036854775807 := by
    rcases hab with rfl | ⟨h1, h2⟩
    · rw [Int.ediv_one, Int.mul_one]; exact ⟨ha, ha'⟩
    · omega
  have u2 : -9223372036854775808 ≤ c / d * d ∧ c / d * d ≤ 9223372036854775807 := by
    rcases hcd with rfl | ⟨h1, h2⟩
    · rw [Int.ediv_one, Int.mul_one]; exact ⟨hc, hc'⟩
    · omega
  obtain ⟨u1, u1'⟩ := u1
  obtain ⟨u2, u2'⟩ := u2
  have f1 := Lib.hid fun W => floor_big a b W ha ha' hb (by omega) hab
  have f2 := Lib.hid fun W => floor_big c d W hc hc' hd (by omega) hcd
  clear hab hcd
  go_enter Try.func56, Try.ntmps56
  go_wp2_with fail
  obtain ⟨xs, hxs⟩ : ∃ xs : List (Nat × Nat × Value), xs = [(w.heap.size, 0, .int .i64 a), (w.heap.size, 1, .int .i64 b), (w.heap.size + 1, 0, .int .i64 c), (w.heap.size + 1, 1, .int .i64 d)] := ⟨_, rfl⟩
  have hH : Held w xs (w.heap.size + 2) ((w.alloc (Obj.cells #[Value.int IntKind.i64 a, Value.int IntKind.i64 b] 77)).alloc (Obj.cells #[Value.int IntKind.i64 c, Value.int IntKind.i64 d] 77)) := by
    subst hxs
    refine ⟨((Below.refl _ _).alloc (Nat.le_refl _) _).alloc (by simp) _, by simp, by omega, ?_⟩
    intro b' o' v' hm
    simp only [List.mem_cons, Prod.mk.injEq, List.not_mem_nil, or_false] at hm
    rcases hm with ⟨rfl, rfl, rfl⟩ | ⟨rfl, rfl, rfl⟩ | ⟨rfl, rfl, rfl⟩ | ⟨rfl, rfl, rfl⟩ <;> exact ⟨by omega, by go_simp⟩
  have hm0 : (w.heap.size, 0, .int .i64 a) ∈ xs := by simp [hxs]
  have hm1 : (w.heap.size, 1, .int .i64 b) ∈ xs := by simp [hxs]
  have hm2 : (w.heap.size + 1, 0, .int .i64 c) ∈ xs := by simp [hxs]
  have hm3 : (w.heap.size + 1, 1, .int .i64 d) ∈ xs := by simp [hxs]
  clear hxs
  have hM := Lib.hid (And.intro hm0 (And.intro hm1 (And.intro hm2 hm3)))
  clear hm0 hm1 hm2 hm3
  generalize ((w.alloc (Obj.cells #[Value.int IntKind.i64 a, Value.int IntKind.i64 b] 77)).alloc (Obj.cells #[Value.int IntKind.i64 c, Value.int IntKind.i64 d] 77)) = W at *
  go_region_held3 (fun w' => Held w xs (w.heap.size + 2) w' ∧ w'.cell? ⟨w.heap.size, 0, none⟩ = some (.int .i64 a) ∧ w'.cell? ⟨w.heap.size, 1, none⟩ = some (.int .i64 b) ∧ w'.cell? ⟨w.heap.size + 1, 0, none⟩ = some (.int .i64 c) ∧ w'.cell? ⟨w.heap.size + 1, 1, none⟩ = some (.int .i64 d))
    (first | exact Held.all4 hM (Held.on ‹Below _ _ _› (And.left ‹Held w xs _ _ ∧ _›)) | exact Held.all4 hM (Held.on ‹Below _ _ _› ‹Held w xs _ _›) | exact Held.all4 hM (Held.on ‹Below _ _ _› (Held.drew ‹Held w xs _ _›)) | exact Held.all4 hM (Held.drew ‹Held w xs _ _›))
    (first | (go_at_call_of 51 (Value.int IntKind.i64 a); refine (f1.out _).mono ?_; rintro e w1 ⟨rfl, hb1⟩) | (go_at_call_of 51 (Value.int IntKind.i64 c); refine (f2.out _).mono ?_; rintro e w1 ⟨rfl, hb1⟩))
  go_wp2
  · have hn : (a / b != c / d) = true := by assumption
    have hH' : Held w xs (w.heap.size + 2) _ := And.left ‹Held w xs _ _ ∧ _›
    go_ret
    exact ⟨ret_bool (decide_eq_decide.2 (less_ne hb hd (by simpa using hn))), hH'.below⟩
  · have hn : (a / b != c / d) = false := by assumption
    have hH' : Held w xs (w.heap.size + 2) _ := And.left ‹Held w xs _ _ ∧ _›
    go_ret
    exact ⟨ret_bool (decide_eq_decide.2 (less_eq (by simpa using hn))), hH'.below⟩
end Go.Proofs.Ytcghafdemklnnaa
