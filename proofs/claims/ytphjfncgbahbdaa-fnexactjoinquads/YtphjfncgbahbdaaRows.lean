/-
  No cell of these rows narrows 'for every input' (looked for: loops, veiled, ifaces, maps, wideKeys, modest, calm, conditions, laid).
  DERIVED. THE GIVEN ROWS OF THIS SEAT. 9 by the template 'for every input the law returns true; each argument reads behind the call as it read before'; 0 by the template 'total and deterministic' (their statements: YtphjfncgbahbdaaTotals.lean).
  GIVEN WITH THE SEED: the statements are not yours to turn. If you find one false, say at which input.
  Laid BY PROGRAM, IN A SANDBOX (cutbox-rows.mjs): the forced cells as the released guide's own fill.sh prints them over the translation 5947e16aef7b2367… (all of the seat's roots in one cut). By AI agents, Wed Nov 11 2026. No macro, syntax, notation, axiom, sorry.
-/
import Derived.Test.YtphjfncgbahbdaaChecked
import GoSem.Claim
import GoSem.ClaimJoined
import GoSem.ClaimMapViews
import Derived.JoinedTies
import Derived.KernelRfl
namespace Go.Proofs.Ytphjfncgbahbdaa
/- THE CELL 'sum', in the pinned program and in every row, IS THE sha256 OF THE DUMP (.gsa) THAT YtphjfncgbahbdaaProg.lean LOADS. Nothing in Lean hashes anything: it is a label: what it is worth is what the hold of that sum in a sandbox is worth. -/
noncomputable def Try.pinned : Pinned := { name := "ytphjfncgbahbdaa", sum := "5947e16aef7b2367eb3f2521440b14f543be2912f83ac1400047619cf53fa0b6", checked := Try.checked }
namespace Rows
def none {H : Type} : Left H := { results := [], args := [] }

/-- 'laws.FnExactNewForest': WHATEVER THE INPUT: true; the input reads as it did. -/
def fnExactNewForestSpec : ChangeSpec := { name := "fnExactNewForest", fn := fun _ => fun
  | [] => { results := [.lit (.bool true)], args := [] }
  | _ => none }
def fnExactNewForestRow : OpenClaim := { program := "ytphjfncgbahbdaa", sum := "5947e16aef7b2367eb3f2521440b14f543be2912f83ac1400047619cf53fa0b6", func := "loop.example/g00613/laws.FnExactNewForest", spec := "fnExactNewForest", plainKeys := false, apart := false }
def FnExactNewForestSaid : Prop := fnExactNewForestRow.holds Try.pinned (OpenSpec.ofChange fnExactNewForestSpec)

/-- ITS FALSE NEIGHBOUR: 'it returns false'. Refute it at one input. -/
def fnExactNewForestWrong : ChangeSpec := { name := "fnExactNewForest", fn := fun _ => fun
  | [] => { results := [.lit (.bool false)], args := [] }
  | _ => none }
def FnExactNewForestWrongFalsely : Prop := fnExactNewForestRow.holds Try.pinned (OpenSpec.ofChange fnExactNewForestWrong)

/-- 'laws.FnExactGoodForest': WHATEVER THE INPUT: true; the input reads as it did. -/
def fnExactGoodForestSpec : ChangeSpec := { name := "fnExactGoodForest", fn := fun _ => fun
  | [d] => { results := [.lit (.bool true)], args := [d] }
  | _ => none }
def fnExactGoodForestRow : OpenClaim := { program := "ytphjfncgbahbdaa", sum := "5947e16aef7b2367eb3f2521440b14f543be2912f83ac1400047619cf53fa0b6", func := "loop.example/g00613/laws.FnExactGoodForest", spec := "fnExactGoodForest", plainKeys := false, apart := false }
def FnExactGoodForestSaid : Prop := fnExactGoodForestRow.holds Try.pinned (OpenSpec.ofChange fnExactGoodForestSpec)

/-- ITS FALSE NEIGHBOUR: 'it returns false'. Refute it at one input. -/
def fnExactGoodForestWrong : ChangeSpec := { name := "fnExactGoodForest", fn := fun _ => fun
  | [d] => { results := [.lit (.bool false)], args := [d] }
  | _ => none }
def FnExactGoodForestWrongFalsely : Prop := fnExactGoodForestRow.holds Try.pinned (OpenSpec.ofChange fnExactGoodForestWrong)

/-- 'laws.FnExactJoinQuads': WHATEVER THE INPUT: true; the input reads as it did. -/
def fnExactJoinQuadsSpec : ChangeSpec := { name := "fnExactJoinQuads", fn := fun _ => fun
  | [d1, d2] => { results := [.lit (.bool true)], args := [d1, d2] }
  | _ => none }
def fnExactJoinQuadsRow : OpenClaim := { program := "ytphjfncgbahbdaa", sum := "5947e16aef7b2367eb3f2521440b14f543be2912f83ac1400047619cf53fa0b6", func := "loop.example/g00613/laws.FnExactJoinQuads", spec := "fnExactJoinQuads", plainKeys := false, apart := false }
def FnExactJoinQuadsSaid : Prop := fnExactJoinQuadsRow.holds Try.pinned (OpenSpec.ofChange fnExactJoinQuadsSpec)

/-- ITS FALSE NEIGHBOUR: 'it returns false'. Refute it at one input. -/
def fnExactJoinQuadsWrong : ChangeSpec := { name := "fnExactJoinQuads", fn := fun _ => fun
  | [d1, d2] => { results := [.lit (.bool false)], args := [d1, d2] }
  | _ => none }
def FnExactJoinQuadsWrongFalsely : Prop := fnExactJoinQuadsRow.holds Try.pinned (OpenSpec.ofChange fnExactJoinQuadsWrong)

/-- 'laws.FnExactTreeOf': WHATEVER THE INPUT: true; the input reads as it did. -/
def fnExactTreeOfSpec : ChangeSpec := { name := "fnExactTreeOf", fn := fun _ => fun
  | [d1, d2, d3] => { results := [.lit (.bool true)], args := [d1, d2, d3] }
  | _ => none }
def fnExactTreeOfRow : OpenClaim := { program := "ytphjfncgbahbdaa", sum := "5947e16aef7b2367eb3f2521440b14f543be2912f83ac1400047619cf53fa0b6", func := "loop.example/g00613/laws.FnExactTreeOf", spec := "fnExactTreeOf", unfollowed := true, recurses := true, plainKeys := false, apart := false }
def FnExactTreeOfSaid : Prop := fnExactTreeOfRow.holds Try.pinned (OpenSpec.ofChange fnExactTreeOfSpec)

/-- ITS FALSE NEIGHBOUR: 'it returns false'. Refute it at one input. -/
def fnExactTreeOfWrong : ChangeSpec := { name := "fnExactTreeOf", fn := fun _ => fun
  | [d1, d2, d3] => { results := [.lit (.bool false)], args := [d1, d2, d3] }
  | _ => none }
def FnExactTreeOfWrongFalsely : Prop := fnExactTreeOfRow.holds Try.pinned (OpenSpec.ofChange fnExactTreeOfWrong)

/-- 'laws.FnExactCellsIn': WHATEVER THE INPUT: true; the input reads as it did. -/
def fnExactCellsInSpec : ChangeSpec := { name := "fnExactCellsIn", fn := fun _ => fun
  | [d1, d2] => { results := [.lit (.bool true)], args := [d1, d2] }
  | _ => none }
def fnExactCellsInRow : OpenClaim := { program := "ytphjfncgbahbdaa", sum := "5947e16aef7b2367eb3f2521440b14f543be2912f83ac1400047619cf53fa0b6", func := "loop.example/g00613/laws.FnExactCellsIn", spec := "fnExactCellsIn", unfollowed := true, recurses := true, plainKeys := false, apart := false }
def FnExactCellsInSaid : Prop := fnExactCellsInRow.holds Try.pinned (OpenSpec.ofChange fnExactCellsInSpec)

/-- ITS FALSE NEIGHBOUR: 'it returns false'. Refute it at one input. -/
def fnExactCellsInWrong : ChangeSpec := { name := "fnExactCellsIn", fn := fun _ => fun
  | [d1, d2] => { results := [.lit (.bool false)], args := [d1, d2] }
  | _ => none }
def FnExactCellsInWrongFalsely : Prop := fnExactCellsInRow.holds Try.pinned (OpenSpec.ofChange fnExactCellsInWrong)

/-- 'laws.FnExactCountOf': WHATEVER THE INPUT: true; the input reads as it did. -/
def fnExactCountOfSpec : ChangeSpec := { name := "fnExactCountOf", fn := fun _ => fun
  | [d1, d2] => { results := [.lit (.bool true)], args := [d1, d2] }
  | _ => none }
def fnExactCountOfRow : OpenClaim := { program := "ytphjfncgbahbdaa", sum := "5947e16aef7b2367eb3f2521440b14f543be2912f83ac1400047619cf53fa0b6", func := "loop.example/g00613/laws.FnExactCountOf", spec := "fnExactCountOf", unfollowed := true, recurses := true, plainKeys := false, apart := false }
def FnExactCountOfSaid : Prop := fnExactCountOfRow.holds Try.pinned (OpenSpec.ofChange fnExactCountOfSpec)

/-- ITS FALSE NEIGHBOUR: 'it returns false'. Refute it at one input. -/
def fnExactCountOfWrong : ChangeSpec := { name := "fnExactCountOf", fn := fun _ => fun
  | [d1, d2] => { results := [.lit (.bool false)], args := [d1, d2] }
  | _ => none }
def FnExactCountOfWrongFalsely : Prop := fnExactCountOfRow.holds Try.pinned (OpenSpec.ofChange fnExactCountOfWrong)

/-- 'laws.FnExactBlankOf': WHATEVER THE INPUT: true; the input reads as it did. -/
def fnExactBlankOfSpec : ChangeSpec := { name := "fnExactBlankOf", fn := fun _ => fun
  | [d1, d2] => { results := [.lit (.bool true)], args := [d1, d2] }
  | _ => none }
def fnExactBlankOfRow : OpenClaim := { program := "ytphjfncgbahbdaa", sum := "5947e16aef7b2367eb3f2521440b14f543be2912f83ac1400047619cf53fa0b6", func := "loop.example/g00613/laws.FnExactBlankOf", spec := "fnExactBlankOf", unfollowed := true, recurses := true, plainKeys := false, apart := false }
def FnExactBlankOfSaid : Prop := fnExactBlankOfRow.holds Try.pinned (OpenSpec.ofChange fnExactBlankOfSpec)

/-- ITS FALSE NEIGHBOUR: 'it returns false'. Refute it at one input. -/
def fnExactBlankOfWrong : ChangeSpec := { name := "fnExactBlankOf", fn := fun _ => fun
  | [d1, d2] => { results := [.lit (.bool false)], args := [d1, d2] }
  | _ => none }
def FnExactBlankOfWrongFalsely : Prop := fnExactBlankOfRow.holds Try.pinned (OpenSpec.ofChange fnExactBlankOfWrong)

/-- 'laws.FnExactLevelOf': WHATEVER THE INPUT: true; the input reads as it did. -/
def fnExactLevelOfSpec : ChangeSpec := { name := "fnExactLevelOf", fn := fun _ => fun
  | [d1, d2] => { results := [.lit (.bool true)], args := [d1, d2] }
  | _ => none }
def fnExactLevelOfRow : OpenClaim := { program := "ytphjfncgbahbdaa", sum := "5947e16aef7b2367eb3f2521440b14f543be2912f83ac1400047619cf53fa0b6", func := "loop.example/g00613/laws.FnExactLevelOf", spec := "fnExactLevelOf", plainKeys := false, apart := false }
def FnExactLevelOfSaid : Prop := fnExactLevelOfRow.holds Try.pinned (OpenSpec.ofChange fnExactLevelOfSpec)

/-- ITS FALSE NEIGHBOUR: 'it returns false'. Refute it at one input. -/
def fnExactLevelOfWrong : ChangeSpec := { name := "fnExactLevelOf", fn := fun _ => fun
  | [d1, d2] => { results := [.lit (.bool false)], args := [d1, d2] }
  | _ => none }
def FnExactLevelOfWrongFalsely : Prop := fnExactLevelOfRow.holds Try.pinned (OpenSpec.ofChange fnExactLevelOfWrong)

/-- 'laws.FnExactSharedIn': WHATEVER THE INPUT: true; the input reads as it did. -/
def fnExactSharedInSpec : ChangeSpec := { name := "fnExactSharedIn", fn := fun _ => fun
  | [d1, d2] => { results := [.lit (.bool true)], args := [d1, d2] }
  | _ => none }
def fnExactSharedInRow : OpenClaim := { program := "ytphjfncgbahbdaa", sum := "5947e16aef7b2367eb3f2521440b14f543be2912f83ac1400047619cf53fa0b6", func := "loop.example/g00613/laws.FnExactSharedIn", spec := "fnExactSharedIn", recurses := true, plainKeys := false, apart := false }
def FnExactSharedInSaid : Prop := fnExactSharedInRow.holds Try.pinned (OpenSpec.ofChange fnExactSharedInSpec)

/-- ITS FALSE NEIGHBOUR: 'it returns false'. Refute it at one input. -/
def fnExactSharedInWrong : ChangeSpec := { name := "fnExactSharedIn", fn := fun _ => fun
  | [d1, d2] => { results := [.lit (.bool false)], args := [d1, d2] }
  | _ => none }
def FnExactSharedInWrongFalsely : Prop := fnExactSharedInRow.holds Try.pinned (OpenSpec.ofChange fnExactSharedInWrong)

/- THE SECOND FORM. 'bulk': how many values and letters a reading holds, each counted each time it is reached (what is shared counts as often as it is met; a slice's spare places count too). A statement '..UptoSaid' is the law's where the arguments, and the package variables that the reading takes, are together of bulk at most 1048576: NARROWER than '..Said'. Prove '..Said' where nothing that the law and all that it calls make is longer than what came in: it says more and counts as full. Else prove '..UptoSaid'. A law counts once. -/
mutual
def uptoBulk {H : Type} : DataW H → Nat
  | .lit (.string bytes) => bytes.length + 1
  | .lit _ => 1
  | .nil => 1
  | .ptr d => uptoBulk d + 1
  | .slice elems spare => uptoBulkAll elems + uptoBulkAll spare + 1
  | .agg parts => uptoBulkAll parts + 1
  | .iface _ d => uptoBulk d + 1
  | .map entries => uptoBulkEntries entries + 1
  | .held _ => 1
def uptoBulkAll {H : Type} : List (DataW H) → Nat
  | [] => 0
  | d :: r => uptoBulk d + uptoBulkAll r
def uptoBulkEntries {H : Type} : List (Lit × DataW H) → Nat
  | [] => 0
  | x :: r => uptoBulkEntry x + uptoBulkEntries r
def uptoBulkEntry {H : Type} : Lit × DataW H → Nat
  | (.string bytes, d) => bytes.length + uptoBulk d + 1
  | (_, d) => uptoBulk d + 1
 end
def uptoSmall : (H : Type) → List (DataW H) → Bool := fun _ ds => decide (uptoBulkAll ds ≤ 1048576)
def OpenSpec.upto (s : _root_.Go.ChangeSpec) : _root_.Go.OpenSpec := { _root_.Go.OpenSpec.ofChange s with cond := some uptoSmall }

/-- 'laws.FnExactNewForest', WHERE WHAT IT READS IS OF BULK AT MOST 1048576: true; the input reads as it did. -/
def fnExactNewForestUptoRow : OpenClaim := { program := "ytphjfncgbahbdaa", sum := "5947e16aef7b2367eb3f2521440b14f543be2912f83ac1400047619cf53fa0b6", func := "loop.example/g00613/laws.FnExactNewForest", spec := "fnExactNewForest", plainKeys := false, apart := false, narrowed := true }
def FnExactNewForestUptoSaid : Prop := fnExactNewForestUptoRow.holds Try.pinned (OpenSpec.upto fnExactNewForestSpec)

/-- 'laws.FnExactGoodForest', WHERE WHAT IT READS IS OF BULK AT MOST 1048576: true; the input reads as it did. -/
def fnExactGoodForestUptoRow : OpenClaim := { program := "ytphjfncgbahbdaa", sum := "5947e16aef7b2367eb3f2521440b14f543be2912f83ac1400047619cf53fa0b6", func := "loop.example/g00613/laws.FnExactGoodForest", spec := "fnExactGoodForest", plainKeys := false, apart := false, narrowed := true }
def FnExactGoodForestUptoSaid : Prop := fnExactGoodForestUptoRow.holds Try.pinned (OpenSpec.upto fnExactGoodForestSpec)

/-- 'laws.FnExactJoinQuads', WHERE WHAT IT READS IS OF BULK AT MOST 1048576: true; the input reads as it did. -/
def fnExactJoinQuadsUptoRow : OpenClaim := { program := "ytphjfncgbahbdaa", sum := "5947e16aef7b2367eb3f2521440b14f543be2912f83ac1400047619cf53fa0b6", func := "loop.example/g00613/laws.FnExactJoinQuads", spec := "fnExactJoinQuads", plainKeys := false, apart := false, narrowed := true }
def FnExactJoinQuadsUptoSaid : Prop := fnExactJoinQuadsUptoRow.holds Try.pinned (OpenSpec.upto fnExactJoinQuadsSpec)

/-- 'laws.FnExactTreeOf', WHERE WHAT IT READS IS OF BULK AT MOST 1048576: true; the input reads as it did. -/
def fnExactTreeOfUptoRow : OpenClaim := { program := "ytphjfncgbahbdaa", sum := "5947e16aef7b2367eb3f2521440b14f543be2912f83ac1400047619cf53fa0b6", func := "loop.example/g00613/laws.FnExactTreeOf", spec := "fnExactTreeOf", unfollowed := true, recurses := true, plainKeys := false, apart := false, narrowed := true }
def FnExactTreeOfUptoSaid : Prop := fnExactTreeOfUptoRow.holds Try.pinned (OpenSpec.upto fnExactTreeOfSpec)

/-- 'laws.FnExactCellsIn', WHERE WHAT IT READS IS OF BULK AT MOST 1048576: true; the input reads as it did. -/
def fnExactCellsInUptoRow : OpenClaim := { program := "ytphjfncgbahbdaa", sum := "5947e16aef7b2367eb3f2521440b14f543be2912f83ac1400047619cf53fa0b6", func := "loop.example/g00613/laws.FnExactCellsIn", spec := "fnExactCellsIn", unfollowed := true, recurses := true, plainKeys := false, apart := false, narrowed := true }
def FnExactCellsInUptoSaid : Prop := fnExactCellsInUptoRow.holds Try.pinned (OpenSpec.upto fnExactCellsInSpec)

/-- 'laws.FnExactCountOf', WHERE WHAT IT READS IS OF BULK AT MOST 1048576: true; the input reads as it did. -/
def fnExactCountOfUptoRow : OpenClaim := { program := "ytphjfncgbahbdaa", sum := "5947e16aef7b2367eb3f2521440b14f543be2912f83ac1400047619cf53fa0b6", func := "loop.example/g00613/laws.FnExactCountOf", spec := "fnExactCountOf", unfollowed := true, recurses := true, plainKeys := false, apart := false, narrowed := true }
def FnExactCountOfUptoSaid : Prop := fnExactCountOfUptoRow.holds Try.pinned (OpenSpec.upto fnExactCountOfSpec)

/-- 'laws.FnExactBlankOf', WHERE WHAT IT READS IS OF BULK AT MOST 1048576: true; the input reads as it did. -/
def fnExactBlankOfUptoRow : OpenClaim := { program := "ytphjfncgbahbdaa", sum := "5947e16aef7b2367eb3f2521440b14f543be2912f83ac1400047619cf53fa0b6", func := "loop.example/g00613/laws.FnExactBlankOf", spec := "fnExactBlankOf", unfollowed := true, recurses := true, plainKeys := false, apart := false, narrowed := true }
def FnExactBlankOfUptoSaid : Prop := fnExactBlankOfUptoRow.holds Try.pinned (OpenSpec.upto fnExactBlankOfSpec)

/-- 'laws.FnExactLevelOf', WHERE WHAT IT READS IS OF BULK AT MOST 1048576: true; the input reads as it did. -/
def fnExactLevelOfUptoRow : OpenClaim := { program := "ytphjfncgbahbdaa", sum := "5947e16aef7b2367eb3f2521440b14f543be2912f83ac1400047619cf53fa0b6", func := "loop.example/g00613/laws.FnExactLevelOf", spec := "fnExactLevelOf", plainKeys := false, apart := false, narrowed := true }
def FnExactLevelOfUptoSaid : Prop := fnExactLevelOfUptoRow.holds Try.pinned (OpenSpec.upto fnExactLevelOfSpec)

/-- 'laws.FnExactSharedIn', WHERE WHAT IT READS IS OF BULK AT MOST 1048576: true; the input reads as it did. -/
def fnExactSharedInUptoRow : OpenClaim := { program := "ytphjfncgbahbdaa", sum := "5947e16aef7b2367eb3f2521440b14f543be2912f83ac1400047619cf53fa0b6", func := "loop.example/g00613/laws.FnExactSharedIn", spec := "fnExactSharedIn", recurses := true, plainKeys := false, apart := false, narrowed := true }
def FnExactSharedInUptoSaid : Prop := fnExactSharedInUptoRow.holds Try.pinned (OpenSpec.upto fnExactSharedInSpec)

end Rows
end Go.Proofs.Ytphjfncgbahbdaa
