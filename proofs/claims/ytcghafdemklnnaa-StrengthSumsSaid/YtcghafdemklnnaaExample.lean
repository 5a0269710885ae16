/- What the package answers for the example's table. -/
import Derived.Test.YtcghafdemklnnaaSample
namespace Go.Proofs.Ytcghafdemklnnaa
open Go.RowKit Go.Sort

theorem ex_ok : TableOk exT exS exSh exRm := by
  unfold TableOk Rises GoodAt ShownOk Rises GoodAt RoomOk InRoom
  decide

theorem ex_strength {a b k : Int} (h : StrengthIs exT exS exSh exRm 5000 5000 200 300 a b k) : a = 4528 ∧ b = 5000 ∧ k = 0 := by
  have h1 : FitsIn exT 200 300 := by unfold FitsIn; decide
  have h2 : ¬ NoneIn exT exS exSh 5000 5000 200 300 := by unfold NoneIn; decide
  rcases h with ⟨h0, _⟩ | ⟨_, _, ⟨h0, _⟩ | ⟨_, ⟨h0, _⟩ | ⟨_, rfl, rfl, rfl⟩⟩⟩
  · exact absurd ⟨ex_ok, by decide⟩ h0
  · exact absurd h1 h0
  · exact absurd h0 h2
  · exact ⟨by decide, by decide, rfl⟩
theorem ex_volume {a b k : Int} (h : VolumeIs exT exS exSh exRm 1009000 1009000 5000 5000 300 300 a b k) : a = 1000000 ∧ b = 1000000 ∧ k = 0 := by
  have h1 : FitsIn exS 5000 5000 ∧ FitsIn exT 300 300 := by unfold FitsIn; decide
  have h2 : upDiv (1009000 * 1000000 * (lowF exT exS exRm 5000 5000 300 300).2) (lowF exT exS exRm 5000 5000 300 300).1 = 1000000 := by decide
  rcases h with ⟨h0, _⟩ | ⟨_, _, ⟨h0, _⟩ | ⟨_, ⟨h0, _⟩ | ⟨_, rfl, rfl, rfl⟩⟩⟩
  · exact absurd ⟨ex_ok, by decide⟩ h0
  · exact absurd h1 h0
  · rw [h2] at h0; exact absurd h0 (by decide)
  · exact ⟨by decide, h2, rfl⟩
def exPs : List PartV := [⟨1000, 1000, 6000, 6000⟩, ⟨1000, 1000, 4000, 4000⟩]
theorem ex_mix {a b c d k : Int} (h : MixIs exPs 100 a b c d k) : a = 1980 ∧ b = 2000 ∧ c = 5000 ∧ d = 5051 ∧ k = 0 := by
  have h1 : ∀ p ∈ exPs, PartOk p := by decide
  rcases h with ⟨h0, _⟩ | ⟨_, ⟨h0, _⟩ | ⟨_, ⟨h0, _⟩ | ⟨_, ⟨h0, _⟩ | ⟨_, ⟨h0, _⟩ | ⟨_, rfl, rfl, rfl, rfl, rfl⟩⟩⟩⟩⟩
  · exact absurd h0 (by decide)
  · exact absurd h1 h0
  · exact absurd h0 (by decide)
  · exact absurd h0 (by decide)
  · exact absurd h0 (by decide)
  · exact ⟨by decide, by decide, by decide, by decide, rfl⟩
end Go.Proofs.Ytcghafdemklnnaa
