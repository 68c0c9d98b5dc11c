/-
  No cell of these rows narrows 'for every input' (looked for: loops, veiled, ifaces, maps, wideKeys, modest, calm, conditions, laid).
  DERIVED. THE GIVEN ROWS OF THIS SEAT. 12 by the template 'for every input the law returns true; each argument reads behind the call as it read before'; 0 by the template 'total and deterministic' (their statements: YtmapbkefndbnnaaTotals.lean).
  GIVEN WITH THE SEED: the statements are not yours to turn. If you find one false, say at which input.
  Laid BY PROGRAM, IN A SANDBOX (cutbox-rows.mjs): the forced cells as the released guide's own fill.sh prints them over the translation b65074a846ec3739… (all of the seat's roots in one cut). By AI agents, Wed Nov 11 2026. No macro, syntax, notation, axiom, sorry.
-/
import Derived.Test.YtmapbkefndbnnaaChecked
import GoSem.Claim
import GoSem.ClaimJoined
import GoSem.ClaimMapViews
import Derived.JoinedTies
import Derived.KernelRfl
namespace Go.Proofs.Ytmapbkefndbnnaa
/- THE CELL 'sum', in the pinned program and in every row, IS THE sha256 OF THE DUMP (.gsa) THAT YtmapbkefndbnnaaProg.lean LOADS. Nothing in Lean hashes anything: it is a label: what it is worth is what the hold of that sum in a sandbox is worth. -/
noncomputable def Try.pinned : Pinned := { name := "ytmapbkefndbnnaa", sum := "b65074a846ec3739c66bdb32980b56fb3522651ad2fc1edabb8de485ff954979", checked := Try.checked }
namespace Rows
def none {H : Type} : Left H := { results := [], args := [] }

/-- 'laws.FnTrees': WHATEVER THE INPUT: true; the input reads as it did. -/
def fnTreesSpec : ChangeSpec := { name := "fnTrees", fn := fun _ => fun
  | [d1, d2] => { results := [.lit (.bool true)], args := [d1, d2] }
  | _ => none }
def fnTreesRow : OpenClaim := { program := "ytmapbkefndbnnaa", sum := "b65074a846ec3739c66bdb32980b56fb3522651ad2fc1edabb8de485ff954979", func := "loop.example/g00613/laws.FnTrees", spec := "fnTrees", unfollowed := true, recurses := true, plainKeys := false, apart := false }
def FnTreesSaid : Prop := fnTreesRow.holds Try.pinned (OpenSpec.ofChange fnTreesSpec)

/-- ITS FALSE NEIGHBOUR: 'it returns false'. Refute it at one input. -/
def fnTreesWrong : ChangeSpec := { name := "fnTrees", fn := fun _ => fun
  | [d1, d2] => { results := [.lit (.bool false)], args := [d1, d2] }
  | _ => none }
def FnTreesWrongFalsely : Prop := fnTreesRow.holds Try.pinned (OpenSpec.ofChange fnTreesWrong)

/-- 'laws.FnShared': WHATEVER THE INPUT: true; the input reads as it did. -/
def fnSharedSpec : ChangeSpec := { name := "fnShared", fn := fun _ => fun
  | [d1, d2] => { results := [.lit (.bool true)], args := [d1, d2] }
  | _ => none }
def fnSharedRow : OpenClaim := { program := "ytmapbkefndbnnaa", sum := "b65074a846ec3739c66bdb32980b56fb3522651ad2fc1edabb8de485ff954979", func := "loop.example/g00613/laws.FnShared", spec := "fnShared", unfollowed := true, recurses := true, plainKeys := false, apart := false }
def FnSharedSaid : Prop := fnSharedRow.holds Try.pinned (OpenSpec.ofChange fnSharedSpec)

/-- ITS FALSE NEIGHBOUR: 'it returns false'. Refute it at one input. -/
def fnSharedWrong : ChangeSpec := { name := "fnShared", fn := fun _ => fun
  | [d1, d2] => { results := [.lit (.bool false)], args := [d1, d2] }
  | _ => none }
def FnSharedWrongFalsely : Prop := fnSharedRow.holds Try.pinned (OpenSpec.ofChange fnSharedWrong)

/-- 'laws.FnChanged': WHATEVER THE INPUT: true; the input reads as it did. -/
def fnChangedSpec : ChangeSpec := { name := "fnChanged", fn := fun _ => fun
  | [d1, d2] => { results := [.lit (.bool true)], args := [d1, d2] }
  | _ => none }
def fnChangedRow : OpenClaim := { program := "ytmapbkefndbnnaa", sum := "b65074a846ec3739c66bdb32980b56fb3522651ad2fc1edabb8de485ff954979", func := "loop.example/g00613/laws.FnChanged", spec := "fnChanged", unfollowed := true, recurses := true, plainKeys := false, apart := false }
def FnChangedSaid : Prop := fnChangedRow.holds Try.pinned (OpenSpec.ofChange fnChangedSpec)

/-- ITS FALSE NEIGHBOUR: 'it returns false'. Refute it at one input. -/
def fnChangedWrong : ChangeSpec := { name := "fnChanged", fn := fun _ => fun
  | [d1, d2] => { results := [.lit (.bool false)], args := [d1, d2] }
  | _ => none }
def FnChangedWrongFalsely : Prop := fnChangedRow.holds Try.pinned (OpenSpec.ofChange fnChangedWrong)

/-- 'laws.FnFramed': WHATEVER THE INPUT: true; the input reads as it did. -/
def fnFramedSpec : ChangeSpec := { name := "fnFramed", fn := fun _ => fun
  | [d1, d2] => { results := [.lit (.bool true)], args := [d1, d2] }
  | _ => none }
def fnFramedRow : OpenClaim := { program := "ytmapbkefndbnnaa", sum := "b65074a846ec3739c66bdb32980b56fb3522651ad2fc1edabb8de485ff954979", func := "loop.example/g00613/laws.FnFramed", spec := "fnFramed", unfollowed := true, recurses := true, plainKeys := false, apart := false }
def FnFramedSaid : Prop := fnFramedRow.holds Try.pinned (OpenSpec.ofChange fnFramedSpec)

/-- ITS FALSE NEIGHBOUR: 'it returns false'. Refute it at one input. -/
def fnFramedWrong : ChangeSpec := { name := "fnFramed", fn := fun _ => fun
  | [d1, d2] => { results := [.lit (.bool false)], args := [d1, d2] }
  | _ => none }
def FnFramedWrongFalsely : Prop := fnFramedRow.holds Try.pinned (OpenSpec.ofChange fnFramedWrong)

/-- 'laws.FnExactGetCell': WHATEVER THE INPUT: true; the input reads as it did. -/
def fnExactGetCellSpec : ChangeSpec := { name := "fnExactGetCell", fn := fun _ => fun
  | [d1, d2, d3] => { results := [.lit (.bool true)], args := [d1, d2, d3] }
  | _ => none }
def fnExactGetCellRow : OpenClaim := { program := "ytmapbkefndbnnaa", sum := "b65074a846ec3739c66bdb32980b56fb3522651ad2fc1edabb8de485ff954979", func := "loop.example/g00613/laws.FnExactGetCell", spec := "fnExactGetCell", recurses := true, plainKeys := false, apart := false }
def FnExactGetCellSaid : Prop := fnExactGetCellRow.holds Try.pinned (OpenSpec.ofChange fnExactGetCellSpec)

/-- ITS FALSE NEIGHBOUR: 'it returns false'. Refute it at one input. -/
def fnExactGetCellWrong : ChangeSpec := { name := "fnExactGetCell", fn := fun _ => fun
  | [d1, d2, d3] => { results := [.lit (.bool false)], args := [d1, d2, d3] }
  | _ => none }
def FnExactGetCellWrongFalsely : Prop := fnExactGetCellRow.holds Try.pinned (OpenSpec.ofChange fnExactGetCellWrong)

/-- 'laws.FnExactSetCell': WHATEVER THE INPUT: true; the input reads as it did. -/
def fnExactSetCellSpec : ChangeSpec := { name := "fnExactSetCell", fn := fun _ => fun
  | [d1, d2, d3, d4] => { results := [.lit (.bool true)], args := [d1, d2, d3, d4] }
  | _ => none }
def fnExactSetCellRow : OpenClaim := { program := "ytmapbkefndbnnaa", sum := "b65074a846ec3739c66bdb32980b56fb3522651ad2fc1edabb8de485ff954979", func := "loop.example/g00613/laws.FnExactSetCell", spec := "fnExactSetCell", unfollowed := true, recurses := true, plainKeys := false, apart := false }
def FnExactSetCellSaid : Prop := fnExactSetCellRow.holds Try.pinned (OpenSpec.ofChange fnExactSetCellSpec)

/-- ITS FALSE NEIGHBOUR: 'it returns false'. Refute it at one input. -/
def fnExactSetCellWrong : ChangeSpec := { name := "fnExactSetCell", fn := fun _ => fun
  | [d1, d2, d3, d4] => { results := [.lit (.bool false)], args := [d1, d2, d3, d4] }
  | _ => none }
def FnExactSetCellWrongFalsely : Prop := fnExactSetCellRow.holds Try.pinned (OpenSpec.ofChange fnExactSetCellWrong)

/-- 'laws.FnExactUnionOf': WHATEVER THE INPUT: true; the input reads as it did. -/
def fnExactUnionOfSpec : ChangeSpec := { name := "fnExactUnionOf", fn := fun _ => fun
  | [d1, d2, d3] => { results := [.lit (.bool true)], args := [d1, d2, d3] }
  | _ => none }
def fnExactUnionOfRow : OpenClaim := { program := "ytmapbkefndbnnaa", sum := "b65074a846ec3739c66bdb32980b56fb3522651ad2fc1edabb8de485ff954979", func := "loop.example/g00613/laws.FnExactUnionOf", spec := "fnExactUnionOf", unfollowed := true, recurses := true, plainKeys := false, apart := false }
def FnExactUnionOfSaid : Prop := fnExactUnionOfRow.holds Try.pinned (OpenSpec.ofChange fnExactUnionOfSpec)

/-- ITS FALSE NEIGHBOUR: 'it returns false'. Refute it at one input. -/
def fnExactUnionOfWrong : ChangeSpec := { name := "fnExactUnionOf", fn := fun _ => fun
  | [d1, d2, d3] => { results := [.lit (.bool false)], args := [d1, d2, d3] }
  | _ => none }
def FnExactUnionOfWrongFalsely : Prop := fnExactUnionOfRow.holds Try.pinned (OpenSpec.ofChange fnExactUnionOfWrong)

/-- 'laws.FnExactWithoutOf': WHATEVER THE INPUT: true; the input reads as it did. -/
def fnExactWithoutOfSpec : ChangeSpec := { name := "fnExactWithoutOf", fn := fun _ => fun
  | [d1, d2, d3] => { results := [.lit (.bool true)], args := [d1, d2, d3] }
  | _ => none }
def fnExactWithoutOfRow : OpenClaim := { program := "ytmapbkefndbnnaa", sum := "b65074a846ec3739c66bdb32980b56fb3522651ad2fc1edabb8de485ff954979", func := "loop.example/g00613/laws.FnExactWithoutOf", spec := "fnExactWithoutOf", unfollowed := true, recurses := true, plainKeys := false, apart := false }
def FnExactWithoutOfSaid : Prop := fnExactWithoutOfRow.holds Try.pinned (OpenSpec.ofChange fnExactWithoutOfSpec)

/-- ITS FALSE NEIGHBOUR: 'it returns false'. Refute it at one input. -/
def fnExactWithoutOfWrong : ChangeSpec := { name := "fnExactWithoutOf", fn := fun _ => fun
  | [d1, d2, d3] => { results := [.lit (.bool false)], args := [d1, d2, d3] }
  | _ => none }
def FnExactWithoutOfWrongFalsely : Prop := fnExactWithoutOfRow.holds Try.pinned (OpenSpec.ofChange fnExactWithoutOfWrong)

/-- 'laws.FnExactClearBox': WHATEVER THE INPUT: true; the input reads as it did. -/
def fnExactClearBoxSpec : ChangeSpec := { name := "fnExactClearBox", fn := fun _ => fun
  | [d1, d2, d3, d4] => { results := [.lit (.bool true)], args := [d1, d2, d3, d4] }
  | _ => none }
def fnExactClearBoxRow : OpenClaim := { program := "ytmapbkefndbnnaa", sum := "b65074a846ec3739c66bdb32980b56fb3522651ad2fc1edabb8de485ff954979", func := "loop.example/g00613/laws.FnExactClearBox", spec := "fnExactClearBox", unfollowed := true, recurses := true, plainKeys := false, apart := false }
def FnExactClearBoxSaid : Prop := fnExactClearBoxRow.holds Try.pinned (OpenSpec.ofChange fnExactClearBoxSpec)

/-- ITS FALSE NEIGHBOUR: 'it returns false'. Refute it at one input. -/
def fnExactClearBoxWrong : ChangeSpec := { name := "fnExactClearBox", fn := fun _ => fun
  | [d1, d2, d3, d4] => { results := [.lit (.bool false)], args := [d1, d2, d3, d4] }
  | _ => none }
def FnExactClearBoxWrongFalsely : Prop := fnExactClearBoxRow.holds Try.pinned (OpenSpec.ofChange fnExactClearBoxWrong)

/-- 'laws.FnExactCentreOf': WHATEVER THE INPUT: true; the input reads as it did. -/
def fnExactCentreOfSpec : ChangeSpec := { name := "fnExactCentreOf", fn := fun _ => fun
  | [d1, d2] => { results := [.lit (.bool true)], args := [d1, d2] }
  | _ => none }
def fnExactCentreOfRow : OpenClaim := { program := "ytmapbkefndbnnaa", sum := "b65074a846ec3739c66bdb32980b56fb3522651ad2fc1edabb8de485ff954979", func := "loop.example/g00613/laws.FnExactCentreOf", spec := "fnExactCentreOf", unfollowed := true, recurses := true, plainKeys := false, apart := false }
def FnExactCentreOfSaid : Prop := fnExactCentreOfRow.holds Try.pinned (OpenSpec.ofChange fnExactCentreOfSpec)

/-- ITS FALSE NEIGHBOUR: 'it returns false'. Refute it at one input. -/
def fnExactCentreOfWrong : ChangeSpec := { name := "fnExactCentreOf", fn := fun _ => fun
  | [d1, d2] => { results := [.lit (.bool false)], args := [d1, d2] }
  | _ => none }
def FnExactCentreOfWrongFalsely : Prop := fnExactCentreOfRow.holds Try.pinned (OpenSpec.ofChange fnExactCentreOfWrong)

/-- 'laws.FnExactFrameOf': WHATEVER THE INPUT: true; the input reads as it did. -/
def fnExactFrameOfSpec : ChangeSpec := { name := "fnExactFrameOf", fn := fun _ => fun
  | [d1, d2] => { results := [.lit (.bool true)], args := [d1, d2] }
  | _ => none }
def fnExactFrameOfRow : OpenClaim := { program := "ytmapbkefndbnnaa", sum := "b65074a846ec3739c66bdb32980b56fb3522651ad2fc1edabb8de485ff954979", func := "loop.example/g00613/laws.FnExactFrameOf", spec := "fnExactFrameOf", unfollowed := true, recurses := true, plainKeys := false, apart := false }
def FnExactFrameOfSaid : Prop := fnExactFrameOfRow.holds Try.pinned (OpenSpec.ofChange fnExactFrameOfSpec)

/-- ITS FALSE NEIGHBOUR: 'it returns false'. Refute it at one input. -/
def fnExactFrameOfWrong : ChangeSpec := { name := "fnExactFrameOf", fn := fun _ => fun
  | [d1, d2] => { results := [.lit (.bool false)], args := [d1, d2] }
  | _ => none }
def FnExactFrameOfWrongFalsely : Prop := fnExactFrameOfRow.holds Try.pinned (OpenSpec.ofChange fnExactFrameOfWrong)

/-- 'laws.FnExactIsFramed': WHATEVER THE INPUT: true; the input reads as it did. -/
def fnExactIsFramedSpec : ChangeSpec := { name := "fnExactIsFramed", fn := fun _ => fun
  | [d1, d2] => { results := [.lit (.bool true)], args := [d1, d2] }
  | _ => none }
def fnExactIsFramedRow : OpenClaim := { program := "ytmapbkefndbnnaa", sum := "b65074a846ec3739c66bdb32980b56fb3522651ad2fc1edabb8de485ff954979", func := "loop.example/g00613/laws.FnExactIsFramed", spec := "fnExactIsFramed", unfollowed := true, recurses := true, plainKeys := false, apart := false }
def FnExactIsFramedSaid : Prop := fnExactIsFramedRow.holds Try.pinned (OpenSpec.ofChange fnExactIsFramedSpec)

/-- ITS FALSE NEIGHBOUR: 'it returns false'. Refute it at one input. -/
def fnExactIsFramedWrong : ChangeSpec := { name := "fnExactIsFramed", fn := fun _ => fun
  | [d1, d2] => { results := [.lit (.bool false)], args := [d1, d2] }
  | _ => none }
def FnExactIsFramedWrongFalsely : Prop := fnExactIsFramedRow.holds Try.pinned (OpenSpec.ofChange fnExactIsFramedWrong)

/- THE SECOND FORM. 'bulk': how many values and letters a reading holds, each counted each time it is reached (what is shared counts as often as it is met; a slice's spare places count too). A statement '..UptoSaid' is the law's where the arguments, and the package variables that the reading takes, are together of bulk at most 1048576: NARROWER than '..Said'. Prove '..Said' where nothing that the law and all that it calls make is longer than what came in: it says more and counts as full. Else prove '..UptoSaid'. A law counts once. -/
mutual
def uptoBulk {H : Type} : DataW H → Nat
  | .lit (.string bytes) => bytes.length + 1
  | .lit _ => 1
  | .nil => 1
  | .ptr d => uptoBulk d + 1
  | .slice elems spare => uptoBulkAll elems + uptoBulkAll spare + 1
  | .agg parts => uptoBulkAll parts + 1
  | .iface _ d => uptoBulk d + 1
  | .map entries => uptoBulkEntries entries + 1
  | .held _ => 1
def uptoBulkAll {H : Type} : List (DataW H) → Nat
  | [] => 0
  | d :: r => uptoBulk d + uptoBulkAll r
def uptoBulkEntries {H : Type} : List (Lit × DataW H) → Nat
  | [] => 0
  | x :: r => uptoBulkEntry x + uptoBulkEntries r
def uptoBulkEntry {H : Type} : Lit × DataW H → Nat
  | (.string bytes, d) => bytes.length + uptoBulk d + 1
  | (_, d) => uptoBulk d + 1
 end
def uptoSmall : (H : Type) → List (DataW H) → Bool := fun _ ds => decide (uptoBulkAll ds ≤ 1048576)
def OpenSpec.upto (s : _root_.Go.ChangeSpec) : _root_.Go.OpenSpec := { _root_.Go.OpenSpec.ofChange s with cond := some uptoSmall }

/-- 'laws.FnTrees', WHERE WHAT IT READS IS OF BULK AT MOST 1048576: true; the input reads as it did. -/
def fnTreesUptoRow : OpenClaim := { program := "ytmapbkefndbnnaa", sum := "b65074a846ec3739c66bdb32980b56fb3522651ad2fc1edabb8de485ff954979", func := "loop.example/g00613/laws.FnTrees", spec := "fnTrees", unfollowed := true, recurses := true, plainKeys := false, apart := false, narrowed := true }
def FnTreesUptoSaid : Prop := fnTreesUptoRow.holds Try.pinned (OpenSpec.upto fnTreesSpec)

/-- 'laws.FnShared', WHERE WHAT IT READS IS OF BULK AT MOST 1048576: true; the input reads as it did. -/
def fnSharedUptoRow : OpenClaim := { program := "ytmapbkefndbnnaa", sum := "b65074a846ec3739c66bdb32980b56fb3522651ad2fc1edabb8de485ff954979", func := "loop.example/g00613/laws.FnShared", spec := "fnShared", unfollowed := true, recurses := true, plainKeys := false, apart := false, narrowed := true }
def FnSharedUptoSaid : Prop := fnSharedUptoRow.holds Try.pinned (OpenSpec.upto fnSharedSpec)

/-- 'laws.FnChanged', WHERE WHAT IT READS IS OF BULK AT MOST 1048576: true; the input reads as it did. -/
def fnChangedUptoRow : OpenClaim := { program := "ytmapbkefndbnnaa", sum := "b65074a846ec3739c66bdb32980b56fb3522651ad2fc1edabb8de485ff954979", func := "loop.example/g00613/laws.FnChanged", spec := "fnChanged", unfollowed := true, recurses := true, plainKeys := false, apart := false, narrowed := true }
def FnChangedUptoSaid : Prop := fnChangedUptoRow.holds Try.pinned (OpenSpec.upto fnChangedSpec)

/-- 'laws.FnFramed', WHERE WHAT IT READS IS OF BULK AT MOST 1048576: true; the input reads as it did. -/
def fnFramedUptoRow : OpenClaim := { program := "ytmapbkefndbnnaa", sum := "b65074a846ec3739c66bdb32980b56fb3522651ad2fc1edabb8de485ff954979", func := "loop.example/g00613/laws.FnFramed", spec := "fnFramed", unfollowed := true, recurses := true, plainKeys := false, apart := false, narrowed := true }
def FnFramedUptoSaid : Prop := fnFramedUptoRow.holds Try.pinned (OpenSpec.upto fnFramedSpec)

/-- 'laws.FnExactGetCell', WHERE WHAT IT READS IS OF BULK AT MOST 1048576: true; the input reads as it did. -/
def fnExactGetCellUptoRow : OpenClaim := { program := "ytmapbkefndbnnaa", sum := "b65074a846ec3739c66bdb32980b56fb3522651ad2fc1edabb8de485ff954979", func := "loop.example/g00613/laws.FnExactGetCell", spec := "fnExactGetCell", recurses := true, plainKeys := false, apart := false, narrowed := true }
def FnExactGetCellUptoSaid : Prop := fnExactGetCellUptoRow.holds Try.pinned (OpenSpec.upto fnExactGetCellSpec)

/-- 'laws.FnExactSetCell', WHERE WHAT IT READS IS OF BULK AT MOST 1048576: true; the input reads as it did. -/
def fnExactSetCellUptoRow : OpenClaim := { program := "ytmapbkefndbnnaa", sum := "b65074a846ec3739c66bdb32980b56fb3522651ad2fc1edabb8de485ff954979", func := "loop.example/g00613/laws.FnExactSetCell", spec := "fnExactSetCell", unfollowed := true, recurses := true, plainKeys := false, apart := false, narrowed := true }
def FnExactSetCellUptoSaid : Prop := fnExactSetCellUptoRow.holds Try.pinned (OpenSpec.upto fnExactSetCellSpec)

/-- 'laws.FnExactUnionOf', WHERE WHAT IT READS IS OF BULK AT MOST 1048576: true; the input reads as it did. -/
def fnExactUnionOfUptoRow : OpenClaim := { program := "ytmapbkefndbnnaa", sum := "b65074a846ec3739c66bdb32980b56fb3522651ad2fc1edabb8de485ff954979", func := "loop.example/g00613/laws.FnExactUnionOf", spec := "fnExactUnionOf", unfollowed := true, recurses := true, plainKeys := false, apart := false, narrowed := true }
def FnExactUnionOfUptoSaid : Prop := fnExactUnionOfUptoRow.holds Try.pinned (OpenSpec.upto fnExactUnionOfSpec)

/-- 'laws.FnExactWithoutOf', WHERE WHAT IT READS IS OF BULK AT MOST 1048576: true; the input reads as it did. -/
def fnExactWithoutOfUptoRow : OpenClaim := { program := "ytmapbkefndbnnaa", sum := "b65074a846ec3739c66bdb32980b56fb3522651ad2fc1edabb8de485ff954979", func := "loop.example/g00613/laws.FnExactWithoutOf", spec := "fnExactWithoutOf", unfollowed := true, recurses := true, plainKeys := false, apart := false, narrowed := true }
def FnExactWithoutOfUptoSaid : Prop := fnExactWithoutOfUptoRow.holds Try.pinned (OpenSpec.upto fnExactWithoutOfSpec)

/-- 'laws.FnExactClearBox', WHERE WHAT IT READS IS OF BULK AT MOST 1048576: true; the input reads as it did. -/
def fnExactClearBoxUptoRow : OpenClaim := { program := "ytmapbkefndbnnaa", sum := "b65074a846ec3739c66bdb32980b56fb3522651ad2fc1edabb8de485ff954979", func := "loop.example/g00613/laws.FnExactClearBox", spec := "fnExactClearBox", unfollowed := true, recurses := true, plainKeys := false, apart := false, narrowed := true }
def FnExactClearBoxUptoSaid : Prop := fnExactClearBoxUptoRow.holds Try.pinned (OpenSpec.upto fnExactClearBoxSpec)

/-- 'laws.FnExactCentreOf', WHERE WHAT IT READS IS OF BULK AT MOST 1048576: true; the input reads as it did. -/
def fnExactCentreOfUptoRow : OpenClaim := { program := "ytmapbkefndbnnaa", sum := "b65074a846ec3739c66bdb32980b56fb3522651ad2fc1edabb8de485ff954979", func := "loop.example/g00613/laws.FnExactCentreOf", spec := "fnExactCentreOf", unfollowed := true, recurses := true, plainKeys := false, apart := false, narrowed := true }
def FnExactCentreOfUptoSaid : Prop := fnExactCentreOfUptoRow.holds Try.pinned (OpenSpec.upto fnExactCentreOfSpec)

/-- 'laws.FnExactFrameOf', WHERE WHAT IT READS IS OF BULK AT MOST 1048576: true; the input reads as it did. -/
def fnExactFrameOfUptoRow : OpenClaim := { program := "ytmapbkefndbnnaa", sum := "b65074a846ec3739c66bdb32980b56fb3522651ad2fc1edabb8de485ff954979", func := "loop.example/g00613/laws.FnExactFrameOf", spec := "fnExactFrameOf", unfollowed := true, recurses := true, plainKeys := false, apart := false, narrowed := true }
def FnExactFrameOfUptoSaid : Prop := fnExactFrameOfUptoRow.holds Try.pinned (OpenSpec.upto fnExactFrameOfSpec)

/-- 'laws.FnExactIsFramed', WHERE WHAT IT READS IS OF BULK AT MOST 1048576: true; the input reads as it did. -/
def fnExactIsFramedUptoRow : OpenClaim := { program := "ytmapbkefndbnnaa", sum := "b65074a846ec3739c66bdb32980b56fb3522651ad2fc1edabb8de485ff954979", func := "loop.example/g00613/laws.FnExactIsFramed", spec := "fnExactIsFramed", unfollowed := true, recurses := true, plainKeys := false, apart := false, narrowed := true }
def FnExactIsFramedUptoSaid : Prop := fnExactIsFramedUptoRow.holds Try.pinned (OpenSpec.upto fnExactIsFramedSpec)

end Rows
end Go.Proofs.Ytmapbkefndbnnaa
