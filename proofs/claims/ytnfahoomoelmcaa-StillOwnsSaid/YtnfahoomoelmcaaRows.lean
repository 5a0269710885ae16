/-
  No cell of these rows narrows 'for every input' (looked for: loops, veiled, ifaces, maps, wideKeys, modest, calm, conditions, laid).
  DERIVED. THE GIVEN ROWS OF THIS SEAT. 13 by the template 'for every input the law returns true; each argument reads behind the call as it read before'; 0 by the template 'total and deterministic' (their statements: YtnfahoomoelmcaaTotals.lean).
  GIVEN WITH THE SEED: the statements are not yours to turn. If you find one false, say at which input.
  Laid BY PROGRAM, IN A SANDBOX (cutbox-rows.mjs): the forced cells as the released guide's own fill.sh prints them over the translation d82016fc4066600c… (all of the seat's roots in one cut). By AI agents, Wed Nov 11 2026. No macro, syntax, notation, axiom, sorry.
-/
import Derived.Test.YtnfahoomoelmcaaChecked
import GoSem.Claim
import GoSem.ClaimJoined
import GoSem.ClaimMapViews
import Derived.JoinedTies
import Derived.KernelRfl
namespace Go.Proofs.Ytnfahoomoelmcaa
/- THE CELL 'sum', in the pinned program and in every row, IS THE sha256 OF THE DUMP (.gsa) THAT YtnfahoomoelmcaaProg.lean LOADS. Nothing in Lean hashes anything: it is a label: what it is worth is what the hold of that sum in a sandbox is worth. -/
noncomputable def Try.pinned : Pinned := { name := "ytnfahoomoelmcaa", sum := "d82016fc4066600c2212968e31eb1362e304f78a54f938337fd62cc71dbae93d", checked := Try.checked }
namespace Rows
def none {H : Type} : Left H := { results := [], args := [] }

/-- 'wormtublaw04.StillDraws': WHATEVER THE INPUT: true; the input reads as it did. -/
def stillDrawsSpec : ChangeSpec := { name := "stillDraws", fn := fun _ => fun
  | [d1, d2, d3, d4, d5] => { results := [.lit (.bool true)], args := [d1, d2, d3, d4, d5] }
  | _ => none }
def stillDrawsRow : OpenClaim := { program := "ytnfahoomoelmcaa", sum := "d82016fc4066600c2212968e31eb1362e304f78a54f938337fd62cc71dbae93d", func := "wormtub/wormtublaw04.StillDraws", spec := "stillDraws", unfollowed := true, recurses := true, apart := false }
def StillDrawsSaid : Prop := stillDrawsRow.holds Try.pinned (OpenSpec.ofChange stillDrawsSpec)

/-- ITS FALSE NEIGHBOUR: 'it returns false'. Refute it at one input. -/
def stillDrawsWrong : ChangeSpec := { name := "stillDraws", fn := fun _ => fun
  | [d1, d2, d3, d4, d5] => { results := [.lit (.bool false)], args := [d1, d2, d3, d4, d5] }
  | _ => none }
def StillDrawsWrongFalsely : Prop := stillDrawsRow.holds Try.pinned (OpenSpec.ofChange stillDrawsWrong)

/-- 'wormtublaw04.StillCuts': WHATEVER THE INPUT: true; the input reads as it did. -/
def stillCutsSpec : ChangeSpec := { name := "stillCuts", fn := fun _ => fun
  | [d1, d2, d3, d4, d5, d6, d7, d8] => { results := [.lit (.bool true)], args := [d1, d2, d3, d4, d5, d6, d7, d8] }
  | _ => none }
def stillCutsRow : OpenClaim := { program := "ytnfahoomoelmcaa", sum := "d82016fc4066600c2212968e31eb1362e304f78a54f938337fd62cc71dbae93d", func := "wormtub/wormtublaw04.StillCuts", spec := "stillCuts", unfollowed := true, recurses := true, apart := false }
def StillCutsSaid : Prop := stillCutsRow.holds Try.pinned (OpenSpec.ofChange stillCutsSpec)

/-- ITS FALSE NEIGHBOUR: 'it returns false'. Refute it at one input. -/
def stillCutsWrong : ChangeSpec := { name := "stillCuts", fn := fun _ => fun
  | [d1, d2, d3, d4, d5, d6, d7, d8] => { results := [.lit (.bool false)], args := [d1, d2, d3, d4, d5, d6, d7, d8] }
  | _ => none }
def StillCutsWrongFalsely : Prop := stillCutsRow.holds Try.pinned (OpenSpec.ofChange stillCutsWrong)

/-- 'wormtublaw04.StillRuns': WHATEVER THE INPUT: true; the input reads as it did. -/
def stillRunsSpec : ChangeSpec := { name := "stillRuns", fn := fun _ => fun
  | [d1, d2, d3, d4, d5, d6, d7, d8, d9, d10] => { results := [.lit (.bool true)], args := [d1, d2, d3, d4, d5, d6, d7, d8, d9, d10] }
  | _ => none }
def stillRunsRow : OpenClaim := { program := "ytnfahoomoelmcaa", sum := "d82016fc4066600c2212968e31eb1362e304f78a54f938337fd62cc71dbae93d", func := "wormtub/wormtublaw04.StillRuns", spec := "stillRuns", unfollowed := true, recurses := true, apart := false }
def StillRunsSaid : Prop := stillRunsRow.holds Try.pinned (OpenSpec.ofChange stillRunsSpec)

/-- ITS FALSE NEIGHBOUR: 'it returns false'. Refute it at one input. -/
def stillRunsWrong : ChangeSpec := { name := "stillRuns", fn := fun _ => fun
  | [d1, d2, d3, d4, d5, d6, d7, d8, d9, d10] => { results := [.lit (.bool false)], args := [d1, d2, d3, d4, d5, d6, d7, d8, d9, d10] }
  | _ => none }
def StillRunsWrongFalsely : Prop := stillRunsRow.holds Try.pinned (OpenSpec.ofChange stillRunsWrong)

/-- 'wormtublaw04.StillNames': WHATEVER THE INPUT: true; the input reads as it did. -/
def stillNamesSpec : ChangeSpec := { name := "stillNames", fn := fun _ => fun
  | [] => { results := [.lit (.bool true)], args := [] }
  | _ => none }
def stillNamesRow : OpenClaim := { program := "ytnfahoomoelmcaa", sum := "d82016fc4066600c2212968e31eb1362e304f78a54f938337fd62cc71dbae93d", func := "wormtub/wormtublaw04.StillNames", spec := "stillNames", unfollowed := true, recurses := true, apart := false }
def StillNamesSaid : Prop := stillNamesRow.holds Try.pinned (OpenSpec.ofChange stillNamesSpec)

/-- ITS FALSE NEIGHBOUR: 'it returns false'. Refute it at one input. -/
def stillNamesWrong : ChangeSpec := { name := "stillNames", fn := fun _ => fun
  | [] => { results := [.lit (.bool false)], args := [] }
  | _ => none }
def StillNamesWrongFalsely : Prop := stillNamesRow.holds Try.pinned (OpenSpec.ofChange stillNamesWrong)

/-- 'wormtublaw04.StillTrue': WHATEVER THE INPUT: true; the input reads as it did. -/
def stillTrueSpec : ChangeSpec := { name := "stillTrue", fn := fun _ => fun
  | [d1, d2, d3, d4] => { results := [.lit (.bool true)], args := [d1, d2, d3, d4] }
  | _ => none }
def stillTrueRow : OpenClaim := { program := "ytnfahoomoelmcaa", sum := "d82016fc4066600c2212968e31eb1362e304f78a54f938337fd62cc71dbae93d", func := "wormtub/wormtublaw04.StillTrue", spec := "stillTrue", unfollowed := true, recurses := true, apart := false }
def StillTrueSaid : Prop := stillTrueRow.holds Try.pinned (OpenSpec.ofChange stillTrueSpec)

/-- ITS FALSE NEIGHBOUR: 'it returns false'. Refute it at one input. -/
def stillTrueWrong : ChangeSpec := { name := "stillTrue", fn := fun _ => fun
  | [d1, d2, d3, d4] => { results := [.lit (.bool false)], args := [d1, d2, d3, d4] }
  | _ => none }
def StillTrueWrongFalsely : Prop := stillTrueRow.holds Try.pinned (OpenSpec.ofChange stillTrueWrong)

/-- 'wormtublaw04.StillNarrower': WHATEVER THE INPUT: true; the input reads as it did. -/
def stillNarrowerSpec : ChangeSpec := { name := "stillNarrower", fn := fun _ => fun
  | [d1, d2, d3, d4, d5] => { results := [.lit (.bool true)], args := [d1, d2, d3, d4, d5] }
  | _ => none }
def stillNarrowerRow : OpenClaim := { program := "ytnfahoomoelmcaa", sum := "d82016fc4066600c2212968e31eb1362e304f78a54f938337fd62cc71dbae93d", func := "wormtub/wormtublaw04.StillNarrower", spec := "stillNarrower", unfollowed := true, recurses := true, apart := false }
def StillNarrowerSaid : Prop := stillNarrowerRow.holds Try.pinned (OpenSpec.ofChange stillNarrowerSpec)

/-- ITS FALSE NEIGHBOUR: 'it returns false'. Refute it at one input. -/
def stillNarrowerWrong : ChangeSpec := { name := "stillNarrower", fn := fun _ => fun
  | [d1, d2, d3, d4, d5] => { results := [.lit (.bool false)], args := [d1, d2, d3, d4, d5] }
  | _ => none }
def StillNarrowerWrongFalsely : Prop := stillNarrowerRow.holds Try.pinned (OpenSpec.ofChange stillNarrowerWrong)

/-- 'wormtublaw04.StillSplit': WHATEVER THE INPUT: true; the input reads as it did. -/
def stillSplitSpec : ChangeSpec := { name := "stillSplit", fn := fun _ => fun
  | [d1, d2, d3, d4] => { results := [.lit (.bool true)], args := [d1, d2, d3, d4] }
  | _ => none }
def stillSplitRow : OpenClaim := { program := "ytnfahoomoelmcaa", sum := "d82016fc4066600c2212968e31eb1362e304f78a54f938337fd62cc71dbae93d", func := "wormtub/wormtublaw04.StillSplit", spec := "stillSplit", unfollowed := true, recurses := true, apart := false }
def StillSplitSaid : Prop := stillSplitRow.holds Try.pinned (OpenSpec.ofChange stillSplitSpec)

/-- ITS FALSE NEIGHBOUR: 'it returns false'. Refute it at one input. -/
def stillSplitWrong : ChangeSpec := { name := "stillSplit", fn := fun _ => fun
  | [d1, d2, d3, d4] => { results := [.lit (.bool false)], args := [d1, d2, d3, d4] }
  | _ => none }
def StillSplitWrongFalsely : Prop := stillSplitRow.holds Try.pinned (OpenSpec.ofChange stillSplitWrong)

/-- 'wormtublaw04.StillKinds': WHATEVER THE INPUT: true; the input reads as it did. -/
def stillKindsSpec : ChangeSpec := { name := "stillKinds", fn := fun _ => fun
  | [d1, d2, d3, d4, d5, d6, d7] => { results := [.lit (.bool true)], args := [d1, d2, d3, d4, d5, d6, d7] }
  | _ => none }
def stillKindsRow : OpenClaim := { program := "ytnfahoomoelmcaa", sum := "d82016fc4066600c2212968e31eb1362e304f78a54f938337fd62cc71dbae93d", func := "wormtub/wormtublaw04.StillKinds", spec := "stillKinds", unfollowed := true, recurses := true, apart := false }
def StillKindsSaid : Prop := stillKindsRow.holds Try.pinned (OpenSpec.ofChange stillKindsSpec)

/-- ITS FALSE NEIGHBOUR: 'it returns false'. Refute it at one input. -/
def stillKindsWrong : ChangeSpec := { name := "stillKinds", fn := fun _ => fun
  | [d1, d2, d3, d4, d5, d6, d7] => { results := [.lit (.bool false)], args := [d1, d2, d3, d4, d5, d6, d7] }
  | _ => none }
def StillKindsWrongFalsely : Prop := stillKindsRow.holds Try.pinned (OpenSpec.ofChange stillKindsWrong)

/-- 'wormtublaw04.StillHeart': WHATEVER THE INPUT: true; the input reads as it did. -/
def stillHeartSpec : ChangeSpec := { name := "stillHeart", fn := fun _ => fun
  | [d1, d2, d3, d4, d5, d6] => { results := [.lit (.bool true)], args := [d1, d2, d3, d4, d5, d6] }
  | _ => none }
def stillHeartRow : OpenClaim := { program := "ytnfahoomoelmcaa", sum := "d82016fc4066600c2212968e31eb1362e304f78a54f938337fd62cc71dbae93d", func := "wormtub/wormtublaw04.StillHeart", spec := "stillHeart", unfollowed := true, recurses := true, apart := false }
def StillHeartSaid : Prop := stillHeartRow.holds Try.pinned (OpenSpec.ofChange stillHeartSpec)

/-- ITS FALSE NEIGHBOUR: 'it returns false'. Refute it at one input. -/
def stillHeartWrong : ChangeSpec := { name := "stillHeart", fn := fun _ => fun
  | [d1, d2, d3, d4, d5, d6] => { results := [.lit (.bool false)], args := [d1, d2, d3, d4, d5, d6] }
  | _ => none }
def StillHeartWrongFalsely : Prop := stillHeartRow.holds Try.pinned (OpenSpec.ofChange stillHeartWrong)

/-- 'wormtublaw04.StillForever': WHATEVER THE INPUT: true; the input reads as it did. -/
def stillForeverSpec : ChangeSpec := { name := "stillForever", fn := fun _ => fun
  | [d1, d2, d3, d4, d5, d6] => { results := [.lit (.bool true)], args := [d1, d2, d3, d4, d5, d6] }
  | _ => none }
def stillForeverRow : OpenClaim := { program := "ytnfahoomoelmcaa", sum := "d82016fc4066600c2212968e31eb1362e304f78a54f938337fd62cc71dbae93d", func := "wormtub/wormtublaw04.StillForever", spec := "stillForever", unfollowed := true, recurses := true, apart := false }
def StillForeverSaid : Prop := stillForeverRow.holds Try.pinned (OpenSpec.ofChange stillForeverSpec)

/-- ITS FALSE NEIGHBOUR: 'it returns false'. Refute it at one input. -/
def stillForeverWrong : ChangeSpec := { name := "stillForever", fn := fun _ => fun
  | [d1, d2, d3, d4, d5, d6] => { results := [.lit (.bool false)], args := [d1, d2, d3, d4, d5, d6] }
  | _ => none }
def StillForeverWrongFalsely : Prop := stillForeverRow.holds Try.pinned (OpenSpec.ofChange stillForeverWrong)

/-- 'wormtublaw04.StillLasts': WHATEVER THE INPUT: true; the input reads as it did. -/
def stillLastsSpec : ChangeSpec := { name := "stillLasts", fn := fun _ => fun
  | [d1, d2, d3, d4] => { results := [.lit (.bool true)], args := [d1, d2, d3, d4] }
  | _ => none }
def stillLastsRow : OpenClaim := { program := "ytnfahoomoelmcaa", sum := "d82016fc4066600c2212968e31eb1362e304f78a54f938337fd62cc71dbae93d", func := "wormtub/wormtublaw04.StillLasts", spec := "stillLasts", unfollowed := true, recurses := true, apart := false }
def StillLastsSaid : Prop := stillLastsRow.holds Try.pinned (OpenSpec.ofChange stillLastsSpec)

/-- ITS FALSE NEIGHBOUR: 'it returns false'. Refute it at one input. -/
def stillLastsWrong : ChangeSpec := { name := "stillLasts", fn := fun _ => fun
  | [d1, d2, d3, d4] => { results := [.lit (.bool false)], args := [d1, d2, d3, d4] }
  | _ => none }
def StillLastsWrongFalsely : Prop := stillLastsRow.holds Try.pinned (OpenSpec.ofChange stillLastsWrong)

/-- 'wormtublaw04.StillColumn': WHATEVER THE INPUT: true; the input reads as it did. -/
def stillColumnSpec : ChangeSpec := { name := "stillColumn", fn := fun _ => fun
  | [d1, d2, d3, d4, d5] => { results := [.lit (.bool true)], args := [d1, d2, d3, d4, d5] }
  | _ => none }
def stillColumnRow : OpenClaim := { program := "ytnfahoomoelmcaa", sum := "d82016fc4066600c2212968e31eb1362e304f78a54f938337fd62cc71dbae93d", func := "wormtub/wormtublaw04.StillColumn", spec := "stillColumn", unfollowed := true, recurses := true, apart := false }
def StillColumnSaid : Prop := stillColumnRow.holds Try.pinned (OpenSpec.ofChange stillColumnSpec)

/-- ITS FALSE NEIGHBOUR: 'it returns false'. Refute it at one input. -/
def stillColumnWrong : ChangeSpec := { name := "stillColumn", fn := fun _ => fun
  | [d1, d2, d3, d4, d5] => { results := [.lit (.bool false)], args := [d1, d2, d3, d4, d5] }
  | _ => none }
def StillColumnWrongFalsely : Prop := stillColumnRow.holds Try.pinned (OpenSpec.ofChange stillColumnWrong)

/-- 'wormtublaw04.StillOwns': WHATEVER THE INPUT: true; the input reads as it did. -/
def stillOwnsSpec : ChangeSpec := { name := "stillOwns", fn := fun _ => fun
  | [d1, d2, d3] => { results := [.lit (.bool true)], args := [d1, d2, d3] }
  | _ => none }
def stillOwnsRow : OpenClaim := { program := "ytnfahoomoelmcaa", sum := "d82016fc4066600c2212968e31eb1362e304f78a54f938337fd62cc71dbae93d", func := "wormtub/wormtublaw04.StillOwns", spec := "stillOwns", unfollowed := true, recurses := true, apart := false }
def StillOwnsSaid : Prop := stillOwnsRow.holds Try.pinned (OpenSpec.ofChange stillOwnsSpec)

/-- ITS FALSE NEIGHBOUR: 'it returns false'. Refute it at one input. -/
def stillOwnsWrong : ChangeSpec := { name := "stillOwns", fn := fun _ => fun
  | [d1, d2, d3] => { results := [.lit (.bool false)], args := [d1, d2, d3] }
  | _ => none }
def StillOwnsWrongFalsely : Prop := stillOwnsRow.holds Try.pinned (OpenSpec.ofChange stillOwnsWrong)

/- THE SECOND FORM. 'bulk': how many values and letters a reading holds, each counted each time it is reached (what is shared counts as often as it is met; a slice's spare places count too). A statement '..UptoSaid' is the law's where the arguments, and the package variables that the reading takes, are together of bulk at most 1048576: NARROWER than '..Said'. Prove '..Said' where nothing that the law and all that it calls make is longer than what came in: it says more and counts as full. Else prove '..UptoSaid'. A law counts once. -/
mutual
def uptoBulk {H : Type} : DataW H → Nat
  | .lit (.string bytes) => bytes.length + 1
  | .lit _ => 1
  | .nil => 1
  | .ptr d => uptoBulk d + 1
  | .slice elems spare => uptoBulkAll elems + uptoBulkAll spare + 1
  | .agg parts => uptoBulkAll parts + 1
  | .iface _ d => uptoBulk d + 1
  | .map entries => uptoBulkEntries entries + 1
  | .held _ => 1
def uptoBulkAll {H : Type} : List (DataW H) → Nat
  | [] => 0
  | d :: r => uptoBulk d + uptoBulkAll r
def uptoBulkEntries {H : Type} : List (Lit × DataW H) → Nat
  | [] => 0
  | x :: r => uptoBulkEntry x + uptoBulkEntries r
def uptoBulkEntry {H : Type} : Lit × DataW H → Nat
  | (.string bytes, d) => bytes.length + uptoBulk d + 1
  | (_, d) => uptoBulk d + 1
 end
def uptoSmall : (H : Type) → List (DataW H) → Bool := fun _ ds => decide (uptoBulkAll ds ≤ 1048576)
def OpenSpec.upto (s : _root_.Go.ChangeSpec) : _root_.Go.OpenSpec := { _root_.Go.OpenSpec.ofChange s with cond := some uptoSmall }

/-- 'wormtublaw04.StillDraws', WHERE WHAT IT READS IS OF BULK AT MOST 1048576: true; the input reads as it did. -/
def stillDrawsUptoRow : OpenClaim := { program := "ytnfahoomoelmcaa", sum := "d82016fc4066600c2212968e31eb1362e304f78a54f938337fd62cc71dbae93d", func := "wormtub/wormtublaw04.StillDraws", spec := "stillDraws", unfollowed := true, recurses := true, apart := false, narrowed := true }
def StillDrawsUptoSaid : Prop := stillDrawsUptoRow.holds Try.pinned (OpenSpec.upto stillDrawsSpec)

/-- 'wormtublaw04.StillCuts', WHERE WHAT IT READS IS OF BULK AT MOST 1048576: true; the input reads as it did. -/
def stillCutsUptoRow : OpenClaim := { program := "ytnfahoomoelmcaa", sum := "d82016fc4066600c2212968e31eb1362e304f78a54f938337fd62cc71dbae93d", func := "wormtub/wormtublaw04.StillCuts", spec := "stillCuts", unfollowed := true, recurses := true, apart := false, narrowed := true }
def StillCutsUptoSaid : Prop := stillCutsUptoRow.holds Try.pinned (OpenSpec.upto stillCutsSpec)

/-- 'wormtublaw04.StillRuns', WHERE WHAT IT READS IS OF BULK AT MOST 1048576: true; the input reads as it did. -/
def stillRunsUptoRow : OpenClaim := { program := "ytnfahoomoelmcaa", sum := "d82016fc4066600c2212968e31eb1362e304f78a54f938337fd62cc71dbae93d", func := "wormtub/wormtublaw04.StillRuns", spec := "stillRuns", unfollowed := true, recurses := true, apart := false, narrowed := true }
def StillRunsUptoSaid : Prop := stillRunsUptoRow.holds Try.pinned (OpenSpec.upto stillRunsSpec)

/-- 'wormtublaw04.StillNames', WHERE WHAT IT READS IS OF BULK AT MOST 1048576: true; the input reads as it did. -/
def stillNamesUptoRow : OpenClaim := { program := "ytnfahoomoelmcaa", sum := "d82016fc4066600c2212968e31eb1362e304f78a54f938337fd62cc71dbae93d", func := "wormtub/wormtublaw04.StillNames", spec := "stillNames", unfollowed := true, recurses := true, apart := false, narrowed := true }
def StillNamesUptoSaid : Prop := stillNamesUptoRow.holds Try.pinned (OpenSpec.upto stillNamesSpec)

/-- 'wormtublaw04.StillTrue', WHERE WHAT IT READS IS OF BULK AT MOST 1048576: true; the input reads as it did. -/
def stillTrueUptoRow : OpenClaim := { program := "ytnfahoomoelmcaa", sum := "d82016fc4066600c2212968e31eb1362e304f78a54f938337fd62cc71dbae93d", func := "wormtub/wormtublaw04.StillTrue", spec := "stillTrue", unfollowed := true, recurses := true, apart := false, narrowed := true }
def StillTrueUptoSaid : Prop := stillTrueUptoRow.holds Try.pinned (OpenSpec.upto stillTrueSpec)

/-- 'wormtublaw04.StillNarrower', WHERE WHAT IT READS IS OF BULK AT MOST 1048576: true; the input reads as it did. -/
def stillNarrowerUptoRow : OpenClaim := { program := "ytnfahoomoelmcaa", sum := "d82016fc4066600c2212968e31eb1362e304f78a54f938337fd62cc71dbae93d", func := "wormtub/wormtublaw04.StillNarrower", spec := "stillNarrower", unfollowed := true, recurses := true, apart := false, narrowed := true }
def StillNarrowerUptoSaid : Prop := stillNarrowerUptoRow.holds Try.pinned (OpenSpec.upto stillNarrowerSpec)

/-- 'wormtublaw04.StillSplit', WHERE WHAT IT READS IS OF BULK AT MOST 1048576: true; the input reads as it did. -/
def stillSplitUptoRow : OpenClaim := { program := "ytnfahoomoelmcaa", sum := "d82016fc4066600c2212968e31eb1362e304f78a54f938337fd62cc71dbae93d", func := "wormtub/wormtublaw04.StillSplit", spec := "stillSplit", unfollowed := true, recurses := true, apart := false, narrowed := true }
def StillSplitUptoSaid : Prop := stillSplitUptoRow.holds Try.pinned (OpenSpec.upto stillSplitSpec)

/-- 'wormtublaw04.StillKinds', WHERE WHAT IT READS IS OF BULK AT MOST 1048576: true; the input reads as it did. -/
def stillKindsUptoRow : OpenClaim := { program := "ytnfahoomoelmcaa", sum := "d82016fc4066600c2212968e31eb1362e304f78a54f938337fd62cc71dbae93d", func := "wormtub/wormtublaw04.StillKinds", spec := "stillKinds", unfollowed := true, recurses := true, apart := false, narrowed := true }
def StillKindsUptoSaid : Prop := stillKindsUptoRow.holds Try.pinned (OpenSpec.upto stillKindsSpec)

/-- 'wormtublaw04.StillHeart', WHERE WHAT IT READS IS OF BULK AT MOST 1048576: true; the input reads as it did. -/
def stillHeartUptoRow : OpenClaim := { program := "ytnfahoomoelmcaa", sum := "d82016fc4066600c2212968e31eb1362e304f78a54f938337fd62cc71dbae93d", func := "wormtub/wormtublaw04.StillHeart", spec := "stillHeart", unfollowed := true, recurses := true, apart := false, narrowed := true }
def StillHeartUptoSaid : Prop := stillHeartUptoRow.holds Try.pinned (OpenSpec.upto stillHeartSpec)

/-- 'wormtublaw04.StillForever', WHERE WHAT IT READS IS OF BULK AT MOST 1048576: true; the input reads as it did. -/
def stillForeverUptoRow : OpenClaim := { program := "ytnfahoomoelmcaa", sum := "d82016fc4066600c2212968e31eb1362e304f78a54f938337fd62cc71dbae93d", func := "wormtub/wormtublaw04.StillForever", spec := "stillForever", unfollowed := true, recurses := true, apart := false, narrowed := true }
def StillForeverUptoSaid : Prop := stillForeverUptoRow.holds Try.pinned (OpenSpec.upto stillForeverSpec)

/-- 'wormtublaw04.StillLasts', WHERE WHAT IT READS IS OF BULK AT MOST 1048576: true; the input reads as it did. -/
def stillLastsUptoRow : OpenClaim := { program := "ytnfahoomoelmcaa", sum := "d82016fc4066600c2212968e31eb1362e304f78a54f938337fd62cc71dbae93d", func := "wormtub/wormtublaw04.StillLasts", spec := "stillLasts", unfollowed := true, recurses := true, apart := false, narrowed := true }
def StillLastsUptoSaid : Prop := stillLastsUptoRow.holds Try.pinned (OpenSpec.upto stillLastsSpec)

/-- 'wormtublaw04.StillColumn', WHERE WHAT IT READS IS OF BULK AT MOST 1048576: true; the input reads as it did. -/
def stillColumnUptoRow : OpenClaim := { program := "ytnfahoomoelmcaa", sum := "d82016fc4066600c2212968e31eb1362e304f78a54f938337fd62cc71dbae93d", func := "wormtub/wormtublaw04.StillColumn", spec := "stillColumn", unfollowed := true, recurses := true, apart := false, narrowed := true }
def StillColumnUptoSaid : Prop := stillColumnUptoRow.holds Try.pinned (OpenSpec.upto stillColumnSpec)

/-- 'wormtublaw04.StillOwns', WHERE WHAT IT READS IS OF BULK AT MOST 1048576: true; the input reads as it did. -/
def stillOwnsUptoRow : OpenClaim := { program := "ytnfahoomoelmcaa", sum := "d82016fc4066600c2212968e31eb1362e304f78a54f938337fd62cc71dbae93d", func := "wormtub/wormtublaw04.StillOwns", spec := "stillOwns", unfollowed := true, recurses := true, apart := false, narrowed := true }
def StillOwnsUptoSaid : Prop := stillOwnsUptoRow.holds Try.pinned (OpenSpec.upto stillOwnsSpec)

end Rows
end Go.Proofs.Ytnfahoomoelmcaa
