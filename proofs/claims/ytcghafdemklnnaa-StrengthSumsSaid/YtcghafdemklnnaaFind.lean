/- The binary search of places: sort.Search for a function value, before, find. -/
import Derived.Test.YtcghafdemklnnaaLow
import Derived.Test.YtcghafdemklnnaaTail
import Derived.Deep.LoopGhost
import Derived.Shelf.RegionOpenPlain
import Derived.BigQuiet
import Derived.Deep.QuietTactic
namespace Go.Proofs.Ytcghafdemklnnaa
open Go.RowKit Go.Sort Go.Shelf

/-- the first i below m at which x is less than f (i + 1), or m -/
def plcFrom (f : Nat → Int) (x : Int) : Nat → Nat → Nat
  | 0, i => i
  | k + 1, i => if f (i + 1) ≤ x then plcFrom f x k (i + 1) else i
def plc (f : Nat → Int) (m : Nat) (x : Int) : Nat := plcFrom f x m 0
theorem plcFrom_spec (f : Nat → Int) (x : Int) : ∀ (k i : Nat), i ≤ plcFrom f x k i ∧ plcFrom f x k i ≤ i + k ∧ (∀ j, i ≤ j → j < plcFrom f x k i → f (j + 1) ≤ x) ∧ (plcFrom f x k i < i + k → x < f (plcFrom f x k i + 1))
  | 0, i => ⟨Nat.le_refl _, Nat.le_refl _, fun j h1 h2 => by simp only [plcFrom] at h2; omega, fun h => by simp only [plcFrom] at h; omega⟩
  | k + 1, i => by
    unfold plcFrom
    by_cases h : f (i + 1) ≤ x
    · rw [if_pos h]
      obtain ⟨h1, h2, h3, h4⟩ := plcFrom_spec f x k (i + 1)
      refine ⟨by omega, by omega, fun j hj1 hj2 => ?_, fun h5 => h4 (by omega)⟩
      by_cases e : j = i
      · subst e; exact h
      · exact h3 j (by omega) hj2
    · rw [if_neg h]
      exact ⟨Nat.le_refl _, by omega, fun j h1 h2 => by omega, fun _ => by omega⟩
theorem plc_spec (f : Nat → Int) (m : Nat) (x : Int) : plc f m x ≤ m ∧ (∀ j, j < plc f m x → f (j + 1) ≤ x) ∧ (plc f m x < m → x < f (plc f m x + 1)) := by
  obtain ⟨_, h2, h3, h4⟩ := plcFrom_spec f x m 0
  exact ⟨by simpa [plc] using h2, fun j hj => h3 j (Nat.zero_le _) hj, fun h => h4 (by simpa [plc] using h)⟩
theorem plc_unique {f : Nat → Int} {m : Nat} {x : Int} {r : Nat} (h1 : r ≤ m) (h2 : ∀ j, j < r → f (j + 1) ≤ x) (h3 : r < m → x < f (r + 1)) : r = plc f m x := by
  obtain ⟨g1, g2, g3⟩ := plc_spec f m x
  rcases Nat.lt_trichotomy r (plc f m x) with h | h | h
  · have := g2 r h; have := h3 (by omega); omega
  · exact h
  · have := h2 _ h; have := g3 (by omega); omega

set_option maxHeartbeats 1000000 in
set_option maxRecDepth 100000 in
theorem Search_any (g : Nat) (cb : Array Value) (n : Nat) (p : Nat → Bool) (w : World) (eg : ∀ args w, (callFunc g args).run Try.prog w = .ok (.enter g args) w) (hsz : n < 4611686018427387904)
    (hf : Hid (∀ (i : Nat) (W : World), i < n → Below w.heap.size w W → Calls Try.prog g (#[.int .i64 i] ++ cb) W fun e w' => e = .returned (.bool (p i)) ∧ Below W.heap.size W w'))
    (hmono : Hid (∀ a b, a ≤ b → b < n → p a = true → p b = true)) :
    Calls Try.prog 95 #[.int .i64 n, .func (.func g) #[] cb] w fun e w' => ∃ r : Nat, e = .returned (.int .i64 r) ∧ (r ≤ n ∧ (∀ j, j < r → p j = false) ∧ (r < n → p r = true)) ∧ Below w.heap.size w w' := by
  go_enter Try.func95, Try.ntmps95
  go_wp2
  go_loopg [5, 6] n (fun kx s5 s6 wr => ∃ (lo hi : Nat), s5 = .int .i64 lo ∧ s6 = .int .i64 hi ∧ lo ≤ hi ∧ hi ≤ n ∧ hi - lo ≤ kx ∧ Below w.heap.size w wr ∧
    Hid ((∀ t, t < lo → p t = false) ∧ (∀ t, hi ≤ t → t < n → p t = true)))
  case atStart => exact ⟨0, n, rfl, rfl, Nat.zero_le _, Nat.le_refl _, by omega, Below.refl _ _, (⟨fun t ht => absurd ht (Nat.not_lt_zero _), fun t h1 h2 => by omega⟩ : (∀ t, t < 0 → p t = false) ∧ (∀ t, n ≤ t → t < n → p t = true))⟩
  case round =>
    obtain ⟨lo, hi, rfl, rfl, hlh, hin, hg, hb, I⟩ := hrel
    by_cases hlt : lo < hi
    · have hc := hf.out ((lo + hi) / 2) wr (by omega) hb
      rw [show (((lo + hi) / 2 : Nat) : Int) = ((lo : Int) + (hi : Int)) / 2 by omega] at hc
      cases hp : p ((lo + hi) / 2) <;> rw [hp] at hc
      · have HP := Lib.hid hp
        clear hp
        go_wp2_with (go_at_fn g; refine hc.mono ?_; rintro e w' ⟨rfl, hb'⟩)
        go_roundg (hi - ((lo + hi) / 2 + 1))
        case measure => omega
        case rel =>
          have I2 : Hid ((∀ t, t < (lo + hi) / 2 + 1 → p t = false) ∧ (∀ t, hi ≤ t → t < n → p t = true)) := Lib.hid ⟨fun t ht => (by
            cases h : p t with
            | false => rfl
            | true => have := hmono.out t ((lo + hi) / 2) (by omega) (by omega) h; rw [HP.out] at this; cases this), I.out.2⟩
          exact ⟨(lo + hi) / 2 + 1, hi, by rw [show ((lo : Int) + (hi : Int)) / 2 + 1 = (((lo + hi) / 2 + 1 : Nat) : Int) by omega], rfl, by omega, hin, Nat.le_refl _, hb.trans (hb'.mono hb.size), I2⟩
      · have HP := Lib.hid hp
        clear hp
        go_wp2_with (go_at_fn g; refine hc.mono ?_; rintro e w' ⟨rfl, hb'⟩)
        go_roundg ((lo + hi) / 2 - lo)
        case measure => omega
        case rel =>
          have I2 : Hid ((∀ t, t < lo → p t = false) ∧ (∀ t, (lo + hi) / 2 ≤ t → t < n → p t = true)) := Lib.hid ⟨I.out.1, fun t ht htn => hmono.out ((lo + hi) / 2) t ht htn HP.out⟩
          exact ⟨lo, (lo + hi) / 2, rfl, by rw [show ((lo : Int) + (hi : Int)) / 2 = (((lo + hi) / 2 : Nat) : Int) by omega], by omega, by omega, Nat.le_refl _, hb.trans (hb'.mono hb.size), I2⟩
    · obtain rfl : hi = lo := by omega
      go_wp2
      go_ret
      exact ⟨hi, rfl, ⟨hin, I.out.1, fun h => I.out.2 hi (Nat.le_refl _) h⟩, hb⟩
end Go.Proofs.Ytcghafdemklnnaa
