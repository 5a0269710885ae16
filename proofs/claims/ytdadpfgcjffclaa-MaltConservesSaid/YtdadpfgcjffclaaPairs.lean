/- Pairs of cells in blocks of six and of eight. -/
import Derived.Test.YtdadpfgcjffclaaCells
namespace Go.Proofs.Ytdadpfgcjffclaa
open Go.RowKit Go.Sort
section
variable {w : World} {g : Nat} {t : TypeId}
theorem Blk.pair6_0 {v0 v1 v2 v3 v4 v5 a b : Value} (h : Blk w g t #[v0, v1, v2, v3, v4, v5]) : Blk ((w.setCell ⟨g, 0, none⟩ a).setCell ⟨g, 1, none⟩ b) g t #[a, b, v2, v3, v4, v5] := by
  have k := (h.set_ 0 a).set_ 1 b
  simp only [List.setIfInBounds_toArray, List.set_cons_zero, List.set_cons_succ] at k
  exact k
theorem Blk.pair6_1 {v0 v1 v2 v3 v4 v5 a b : Value} (h : Blk w g t #[v0, v1, v2, v3, v4, v5]) : Blk ((w.setCell ⟨g, 2, none⟩ a).setCell ⟨g, 3, none⟩ b) g t #[v0, v1, a, b, v4, v5] := by
  have k := (h.set_ 2 a).set_ 3 b
  simp only [List.setIfInBounds_toArray, List.set_cons_zero, List.set_cons_succ] at k
  exact k
theorem Blk.pair6_2 {v0 v1 v2 v3 v4 v5 a b : Value} (h : Blk w g t #[v0, v1, v2, v3, v4, v5]) : Blk ((w.setCell ⟨g, 4, none⟩ a).setCell ⟨g, 5, none⟩ b) g t #[v0, v1, v2, v3, a, b] := by
  have k := (h.set_ 4 a).set_ 5 b
  simp only [List.setIfInBounds_toArray, List.set_cons_zero, List.set_cons_succ] at k
  exact k
theorem Blk.pair8_0 {v0 v1 v2 v3 v4 v5 v6 v7 a b : Value} (h : Blk w g t #[v0, v1, v2, v3, v4, v5, v6, v7]) : Blk ((w.setCell ⟨g, 0, none⟩ a).setCell ⟨g, 1, none⟩ b) g t #[a, b, v2, v3, v4, v5, v6, v7] := by
  have k := (h.set_ 0 a).set_ 1 b
  simp only [List.setIfInBounds_toArray, List.set_cons_zero, List.set_cons_succ] at k
  exact k
theorem Blk.pair8_1 {v0 v1 v2 v3 v4 v5 v6 v7 a b : Value} (h : Blk w g t #[v0, v1, v2, v3, v4, v5, v6, v7]) : Blk ((w.setCell ⟨g, 2, none⟩ a).setCell ⟨g, 3, none⟩ b) g t #[v0, v1, a, b, v4, v5, v6, v7] := by
  have k := (h.set_ 2 a).set_ 3 b
  simp only [List.setIfInBounds_toArray, List.set_cons_zero, List.set_cons_succ] at k
  exact k
theorem Blk.pair8_2 {v0 v1 v2 v3 v4 v5 v6 v7 a b : Value} (h : Blk w g t #[v0, v1, v2, v3, v4, v5, v6, v7]) : Blk ((w.setCell ⟨g, 4, none⟩ a).setCell ⟨g, 5, none⟩ b) g t #[v0, v1, v2, v3, a, b, v6, v7] := by
  have k := (h.set_ 4 a).set_ 5 b
  simp only [List.setIfInBounds_toArray, List.set_cons_zero, List.set_cons_succ] at k
  exact k
theorem Blk.pair8_3 {v0 v1 v2 v3 v4 v5 v6 v7 a b : Value} (h : Blk w g t #[v0, v1, v2, v3, v4, v5, v6, v7]) : Blk ((w.setCell ⟨g, 6, none⟩ a).setCell ⟨g, 7, none⟩ b) g t #[v0, v1, v2, v3, v4, v5, a, b] := by
  have k := (h.set_ 6 a).set_ 7 b
  simp only [List.setIfInBounds_toArray, List.set_cons_zero, List.set_cons_succ] at k
  exact k
end
end Go.Proofs.Ytdadpfgcjffclaa
