/-
  No cell of these rows narrows 'for every input' (looked for: loops, veiled, ifaces, maps, wideKeys, modest, calm, conditions, laid).
  DERIVED. THE GIVEN ROWS OF THIS SEAT. 10 by the template 'for every input the law returns true; each argument reads behind the call as it read before'; 0 by the template 'total and deterministic' (their statements: YtgfdkolhldbehaaTotals.lean).
  GIVEN WITH THE SEED: the statements are not yours to turn. If you find one false, say at which input.
  Laid BY PROGRAM, IN A SANDBOX (cutbox-rows.mjs): the forced cells as the released guide's own fill.sh prints them over the translation 801d06f93a4ef470… (all of the seat's roots in one cut). By AI agents, Wed Nov 11 2026. No macro, syntax, notation, axiom, sorry.
-/
import Derived.Test.YtgfdkolhldbehaaChecked
import GoSem.Claim
import GoSem.ClaimJoined
import GoSem.ClaimMapViews
import Derived.JoinedTies
import Derived.KernelRfl
namespace Go.Proofs.Ytgfdkolhldbehaa
/- THE CELL 'sum', in the pinned program and in every row, IS THE sha256 OF THE DUMP (.gsa) THAT YtgfdkolhldbehaaProg.lean LOADS. Nothing in Lean hashes anything: it is a label: what it is worth is what the hold of that sum in a sandbox is worth. -/
noncomputable def Try.pinned : Pinned := { name := "ytgfdkolhldbehaa", sum := "801d06f93a4ef47068991c7d10e6c5bbde6777d26ba039b98a62e12b120f26c3", checked := Try.checked }
namespace Rows
def none {H : Type} : Left H := { results := [], args := [] }

/-- 'laws.FnFates': WHATEVER THE INPUT: true; the input reads as it did. -/
def fnFatesSpec : ChangeSpec := { name := "fnFates", fn := fun _ => fun
  | [d1, d2] => { results := [.lit (.bool true)], args := [d1, d2] }
  | _ => none }
def fnFatesRow : OpenClaim := { program := "ytgfdkolhldbehaa", sum := "801d06f93a4ef47068991c7d10e6c5bbde6777d26ba039b98a62e12b120f26c3", func := "loop.example/g00613/laws.FnFates", spec := "fnFates", unfollowed := true, recurses := true, plainKeys := false, apart := false }
def FnFatesSaid : Prop := fnFatesRow.holds Try.pinned (OpenSpec.ofChange fnFatesSpec)

/-- ITS FALSE NEIGHBOUR: 'it returns false'. Refute it at one input. -/
def fnFatesWrong : ChangeSpec := { name := "fnFates", fn := fun _ => fun
  | [d1, d2] => { results := [.lit (.bool false)], args := [d1, d2] }
  | _ => none }
def FnFatesWrongFalsely : Prop := fnFatesRow.holds Try.pinned (OpenSpec.ofChange fnFatesWrong)

/-- 'laws.FnTurned': WHATEVER THE INPUT: true; the input reads as it did. -/
def fnTurnedSpec : ChangeSpec := { name := "fnTurned", fn := fun _ => fun
  | [d1, d2] => { results := [.lit (.bool true)], args := [d1, d2] }
  | _ => none }
def fnTurnedRow : OpenClaim := { program := "ytgfdkolhldbehaa", sum := "801d06f93a4ef47068991c7d10e6c5bbde6777d26ba039b98a62e12b120f26c3", func := "loop.example/g00613/laws.FnTurned", spec := "fnTurned", unfollowed := true, recurses := true, plainKeys := false, apart := false }
def FnTurnedSaid : Prop := fnTurnedRow.holds Try.pinned (OpenSpec.ofChange fnTurnedSpec)

/-- ITS FALSE NEIGHBOUR: 'it returns false'. Refute it at one input. -/
def fnTurnedWrong : ChangeSpec := { name := "fnTurned", fn := fun _ => fun
  | [d1, d2] => { results := [.lit (.bool false)], args := [d1, d2] }
  | _ => none }
def FnTurnedWrongFalsely : Prop := fnTurnedRow.holds Try.pinned (OpenSpec.ofChange fnTurnedWrong)

/-- 'laws.FnExactTurnCells': WHATEVER THE INPUT: true; the input reads as it did. -/
def fnExactTurnCellsSpec : ChangeSpec := { name := "fnExactTurnCells", fn := fun _ => fun
  | [d1, d2] => { results := [.lit (.bool true)], args := [d1, d2] }
  | _ => none }
def fnExactTurnCellsRow : OpenClaim := { program := "ytgfdkolhldbehaa", sum := "801d06f93a4ef47068991c7d10e6c5bbde6777d26ba039b98a62e12b120f26c3", func := "loop.example/g00613/laws.FnExactTurnCells", spec := "fnExactTurnCells", unfollowed := true, recurses := true, plainKeys := false, apart := false }
def FnExactTurnCellsSaid : Prop := fnExactTurnCellsRow.holds Try.pinned (OpenSpec.ofChange fnExactTurnCellsSpec)

/-- ITS FALSE NEIGHBOUR: 'it returns false'. Refute it at one input. -/
def fnExactTurnCellsWrong : ChangeSpec := { name := "fnExactTurnCells", fn := fun _ => fun
  | [d1, d2] => { results := [.lit (.bool false)], args := [d1, d2] }
  | _ => none }
def FnExactTurnCellsWrongFalsely : Prop := fnExactTurnCellsRow.holds Try.pinned (OpenSpec.ofChange fnExactTurnCellsWrong)

/-- 'laws.FnExactThenWay': WHATEVER THE INPUT: true; the input reads as it did. -/
def fnExactThenWaySpec : ChangeSpec := { name := "fnExactThenWay", fn := fun _ => fun
  | [d1, d2] => { results := [.lit (.bool true)], args := [d1, d2] }
  | _ => none }
def fnExactThenWayRow : OpenClaim := { program := "ytgfdkolhldbehaa", sum := "801d06f93a4ef47068991c7d10e6c5bbde6777d26ba039b98a62e12b120f26c3", func := "loop.example/g00613/laws.FnExactThenWay", spec := "fnExactThenWay", unfollowed := true, recurses := true, plainKeys := false, apart := false }
def FnExactThenWaySaid : Prop := fnExactThenWayRow.holds Try.pinned (OpenSpec.ofChange fnExactThenWaySpec)

/-- ITS FALSE NEIGHBOUR: 'it returns false'. Refute it at one input. -/
def fnExactThenWayWrong : ChangeSpec := { name := "fnExactThenWay", fn := fun _ => fun
  | [d1, d2] => { results := [.lit (.bool false)], args := [d1, d2] }
  | _ => none }
def FnExactThenWayWrongFalsely : Prop := fnExactThenWayRow.holds Try.pinned (OpenSpec.ofChange fnExactThenWayWrong)

/-- 'laws.FnExactBackWay': WHATEVER THE INPUT: true; the input reads as it did. -/
def fnExactBackWaySpec : ChangeSpec := { name := "fnExactBackWay", fn := fun _ => fun
  | [d] => { results := [.lit (.bool true)], args := [d] }
  | _ => none }
def fnExactBackWayRow : OpenClaim := { program := "ytgfdkolhldbehaa", sum := "801d06f93a4ef47068991c7d10e6c5bbde6777d26ba039b98a62e12b120f26c3", func := "loop.example/g00613/laws.FnExactBackWay", spec := "fnExactBackWay", unfollowed := true, recurses := true, plainKeys := false, apart := false }
def FnExactBackWaySaid : Prop := fnExactBackWayRow.holds Try.pinned (OpenSpec.ofChange fnExactBackWaySpec)

/-- ITS FALSE NEIGHBOUR: 'it returns false'. Refute it at one input. -/
def fnExactBackWayWrong : ChangeSpec := { name := "fnExactBackWay", fn := fun _ => fun
  | [d] => { results := [.lit (.bool false)], args := [d] }
  | _ => none }
def FnExactBackWayWrongFalsely : Prop := fnExactBackWayRow.holds Try.pinned (OpenSpec.ofChange fnExactBackWayWrong)

/-- 'laws.FnExactLeastTurn': WHATEVER THE INPUT: true; the input reads as it did. -/
def fnExactLeastTurnSpec : ChangeSpec := { name := "fnExactLeastTurn", fn := fun _ => fun
  | [d] => { results := [.lit (.bool true)], args := [d] }
  | _ => none }
def fnExactLeastTurnRow : OpenClaim := { program := "ytgfdkolhldbehaa", sum := "801d06f93a4ef47068991c7d10e6c5bbde6777d26ba039b98a62e12b120f26c3", func := "loop.example/g00613/laws.FnExactLeastTurn", spec := "fnExactLeastTurn", unfollowed := true, recurses := true, plainKeys := false, apart := false }
def FnExactLeastTurnSaid : Prop := fnExactLeastTurnRow.holds Try.pinned (OpenSpec.ofChange fnExactLeastTurnSpec)

/-- ITS FALSE NEIGHBOUR: 'it returns false'. Refute it at one input. -/
def fnExactLeastTurnWrong : ChangeSpec := { name := "fnExactLeastTurn", fn := fun _ => fun
  | [d] => { results := [.lit (.bool false)], args := [d] }
  | _ => none }
def FnExactLeastTurnWrongFalsely : Prop := fnExactLeastTurnRow.holds Try.pinned (OpenSpec.ofChange fnExactLeastTurnWrong)

/-- 'laws.FnExactTurnsOf': WHATEVER THE INPUT: true; the input reads as it did. -/
def fnExactTurnsOfSpec : ChangeSpec := { name := "fnExactTurnsOf", fn := fun _ => fun
  | [d] => { results := [.lit (.bool true)], args := [d] }
  | _ => none }
def fnExactTurnsOfRow : OpenClaim := { program := "ytgfdkolhldbehaa", sum := "801d06f93a4ef47068991c7d10e6c5bbde6777d26ba039b98a62e12b120f26c3", func := "loop.example/g00613/laws.FnExactTurnsOf", spec := "fnExactTurnsOf", unfollowed := true, recurses := true, plainKeys := false, apart := false }
def FnExactTurnsOfSaid : Prop := fnExactTurnsOfRow.holds Try.pinned (OpenSpec.ofChange fnExactTurnsOfSpec)

/-- ITS FALSE NEIGHBOUR: 'it returns false'. Refute it at one input. -/
def fnExactTurnsOfWrong : ChangeSpec := { name := "fnExactTurnsOf", fn := fun _ => fun
  | [d] => { results := [.lit (.bool false)], args := [d] }
  | _ => none }
def FnExactTurnsOfWrongFalsely : Prop := fnExactTurnsOfRow.holds Try.pinned (OpenSpec.ofChange fnExactTurnsOfWrong)

/-- 'laws.FnExactFixedBy': WHATEVER THE INPUT: true; the input reads as it did. -/
def fnExactFixedBySpec : ChangeSpec := { name := "fnExactFixedBy", fn := fun _ => fun
  | [d] => { results := [.lit (.bool true)], args := [d] }
  | _ => none }
def fnExactFixedByRow : OpenClaim := { program := "ytgfdkolhldbehaa", sum := "801d06f93a4ef47068991c7d10e6c5bbde6777d26ba039b98a62e12b120f26c3", func := "loop.example/g00613/laws.FnExactFixedBy", spec := "fnExactFixedBy", unfollowed := true, recurses := true, plainKeys := false, apart := false }
def FnExactFixedBySaid : Prop := fnExactFixedByRow.holds Try.pinned (OpenSpec.ofChange fnExactFixedBySpec)

/-- ITS FALSE NEIGHBOUR: 'it returns false'. Refute it at one input. -/
def fnExactFixedByWrong : ChangeSpec := { name := "fnExactFixedBy", fn := fun _ => fun
  | [d] => { results := [.lit (.bool false)], args := [d] }
  | _ => none }
def FnExactFixedByWrongFalsely : Prop := fnExactFixedByRow.holds Try.pinned (OpenSpec.ofChange fnExactFixedByWrong)

/-- 'laws.FnExactClassesOf': WHATEVER THE INPUT: true; the input reads as it did. -/
def fnExactClassesOfSpec : ChangeSpec := { name := "fnExactClassesOf", fn := fun _ => fun
  | [d] => { results := [.lit (.bool true)], args := [d] }
  | _ => none }
def fnExactClassesOfRow : OpenClaim := { program := "ytgfdkolhldbehaa", sum := "801d06f93a4ef47068991c7d10e6c5bbde6777d26ba039b98a62e12b120f26c3", func := "loop.example/g00613/laws.FnExactClassesOf", spec := "fnExactClassesOf", unfollowed := true, recurses := true, plainKeys := false, apart := false }
def FnExactClassesOfSaid : Prop := fnExactClassesOfRow.holds Try.pinned (OpenSpec.ofChange fnExactClassesOfSpec)

/-- ITS FALSE NEIGHBOUR: 'it returns false'. Refute it at one input. -/
def fnExactClassesOfWrong : ChangeSpec := { name := "fnExactClassesOf", fn := fun _ => fun
  | [d] => { results := [.lit (.bool false)], args := [d] }
  | _ => none }
def FnExactClassesOfWrongFalsely : Prop := fnExactClassesOfRow.holds Try.pinned (OpenSpec.ofChange fnExactClassesOfWrong)

/-- 'laws.FnExactSquareBy': WHATEVER THE INPUT: true; the input reads as it did. -/
def fnExactSquareBySpec : ChangeSpec := { name := "fnExactSquareBy", fn := fun _ => fun
  | [d1, d2] => { results := [.lit (.bool true)], args := [d1, d2] }
  | _ => none }
def fnExactSquareByRow : OpenClaim := { program := "ytgfdkolhldbehaa", sum := "801d06f93a4ef47068991c7d10e6c5bbde6777d26ba039b98a62e12b120f26c3", func := "loop.example/g00613/laws.FnExactSquareBy", spec := "fnExactSquareBy", plainKeys := false, apart := false }
def FnExactSquareBySaid : Prop := fnExactSquareByRow.holds Try.pinned (OpenSpec.ofChange fnExactSquareBySpec)

/-- ITS FALSE NEIGHBOUR: 'it returns false'. Refute it at one input. -/
def fnExactSquareByWrong : ChangeSpec := { name := "fnExactSquareBy", fn := fun _ => fun
  | [d1, d2] => { results := [.lit (.bool false)], args := [d1, d2] }
  | _ => none }
def FnExactSquareByWrongFalsely : Prop := fnExactSquareByRow.holds Try.pinned (OpenSpec.ofChange fnExactSquareByWrong)

/- THE SECOND FORM. 'bulk': how many values and letters a reading holds, each counted each time it is reached (what is shared counts as often as it is met; a slice's spare places count too). A statement '..UptoSaid' is the law's where the arguments, and the package variables that the reading takes, are together of bulk at most 1048576: NARROWER than '..Said'. Prove '..Said' where nothing that the law and all that it calls make is longer than what came in: it says more and counts as full. Else prove '..UptoSaid'. A law counts once. -/
mutual
def uptoBulk {H : Type} : DataW H → Nat
  | .lit (.string bytes) => bytes.length + 1
  | .lit _ => 1
  | .nil => 1
  | .ptr d => uptoBulk d + 1
  | .slice elems spare => uptoBulkAll elems + uptoBulkAll spare + 1
  | .agg parts => uptoBulkAll parts + 1
  | .iface _ d => uptoBulk d + 1
  | .map entries => uptoBulkEntries entries + 1
  | .held _ => 1
def uptoBulkAll {H : Type} : List (DataW H) → Nat
  | [] => 0
  | d :: r => uptoBulk d + uptoBulkAll r
def uptoBulkEntries {H : Type} : List (Lit × DataW H) → Nat
  | [] => 0
  | x :: r => uptoBulkEntry x + uptoBulkEntries r
def uptoBulkEntry {H : Type} : Lit × DataW H → Nat
  | (.string bytes, d) => bytes.length + uptoBulk d + 1
  | (_, d) => uptoBulk d + 1
 end
def uptoSmall : (H : Type) → List (DataW H) → Bool := fun _ ds => decide (uptoBulkAll ds ≤ 1048576)
def OpenSpec.upto (s : _root_.Go.ChangeSpec) : _root_.Go.OpenSpec := { _root_.Go.OpenSpec.ofChange s with cond := some uptoSmall }

/-- 'laws.FnFates', WHERE WHAT IT READS IS OF BULK AT MOST 1048576: true; the input reads as it did. -/
def fnFatesUptoRow : OpenClaim := { program := "ytgfdkolhldbehaa", sum := "801d06f93a4ef47068991c7d10e6c5bbde6777d26ba039b98a62e12b120f26c3", func := "loop.example/g00613/laws.FnFates", spec := "fnFates", unfollowed := true, recurses := true, plainKeys := false, apart := false, narrowed := true }
def FnFatesUptoSaid : Prop := fnFatesUptoRow.holds Try.pinned (OpenSpec.upto fnFatesSpec)

/-- 'laws.FnTurned', WHERE WHAT IT READS IS OF BULK AT MOST 1048576: true; the input reads as it did. -/
def fnTurnedUptoRow : OpenClaim := { program := "ytgfdkolhldbehaa", sum := "801d06f93a4ef47068991c7d10e6c5bbde6777d26ba039b98a62e12b120f26c3", func := "loop.example/g00613/laws.FnTurned", spec := "fnTurned", unfollowed := true, recurses := true, plainKeys := false, apart := false, narrowed := true }
def FnTurnedUptoSaid : Prop := fnTurnedUptoRow.holds Try.pinned (OpenSpec.upto fnTurnedSpec)

/-- 'laws.FnExactTurnCells', WHERE WHAT IT READS IS OF BULK AT MOST 1048576: true; the input reads as it did. -/
def fnExactTurnCellsUptoRow : OpenClaim := { program := "ytgfdkolhldbehaa", sum := "801d06f93a4ef47068991c7d10e6c5bbde6777d26ba039b98a62e12b120f26c3", func := "loop.example/g00613/laws.FnExactTurnCells", spec := "fnExactTurnCells", unfollowed := true, recurses := true, plainKeys := false, apart := false, narrowed := true }
def FnExactTurnCellsUptoSaid : Prop := fnExactTurnCellsUptoRow.holds Try.pinned (OpenSpec.upto fnExactTurnCellsSpec)

/-- 'laws.FnExactThenWay', WHERE WHAT IT READS IS OF BULK AT MOST 1048576: true; the input reads as it did. -/
def fnExactThenWayUptoRow : OpenClaim := { program := "ytgfdkolhldbehaa", sum := "801d06f93a4ef47068991c7d10e6c5bbde6777d26ba039b98a62e12b120f26c3", func := "loop.example/g00613/laws.FnExactThenWay", spec := "fnExactThenWay", unfollowed := true, recurses := true, plainKeys := false, apart := false, narrowed := true }
def FnExactThenWayUptoSaid : Prop := fnExactThenWayUptoRow.holds Try.pinned (OpenSpec.upto fnExactThenWaySpec)

/-- 'laws.FnExactBackWay', WHERE WHAT IT READS IS OF BULK AT MOST 1048576: true; the input reads as it did. -/
def fnExactBackWayUptoRow : OpenClaim := { program := "ytgfdkolhldbehaa", sum := "801d06f93a4ef47068991c7d10e6c5bbde6777d26ba039b98a62e12b120f26c3", func := "loop.example/g00613/laws.FnExactBackWay", spec := "fnExactBackWay", unfollowed := true, recurses := true, plainKeys := false, apart := false, narrowed := true }
def FnExactBackWayUptoSaid : Prop := fnExactBackWayUptoRow.holds Try.pinned (OpenSpec.upto fnExactBackWaySpec)

/-- 'laws.FnExactLeastTurn', WHERE WHAT IT READS IS OF BULK AT MOST 1048576: true; the input reads as it did. -/
def fnExactLeastTurnUptoRow : OpenClaim := { program := "ytgfdkolhldbehaa", sum := "801d06f93a4ef47068991c7d10e6c5bbde6777d26ba039b98a62e12b120f26c3", func := "loop.example/g00613/laws.FnExactLeastTurn", spec := "fnExactLeastTurn", unfollowed := true, recurses := true, plainKeys := false, apart := false, narrowed := true }
def FnExactLeastTurnUptoSaid : Prop := fnExactLeastTurnUptoRow.holds Try.pinned (OpenSpec.upto fnExactLeastTurnSpec)

/-- 'laws.FnExactTurnsOf', WHERE WHAT IT READS IS OF BULK AT MOST 1048576: true; the input reads as it did. -/
def fnExactTurnsOfUptoRow : OpenClaim := { program := "ytgfdkolhldbehaa", sum := "801d06f93a4ef47068991c7d10e6c5bbde6777d26ba039b98a62e12b120f26c3", func := "loop.example/g00613/laws.FnExactTurnsOf", spec := "fnExactTurnsOf", unfollowed := true, recurses := true, plainKeys := false, apart := false, narrowed := true }
def FnExactTurnsOfUptoSaid : Prop := fnExactTurnsOfUptoRow.holds Try.pinned (OpenSpec.upto fnExactTurnsOfSpec)

/-- 'laws.FnExactFixedBy', WHERE WHAT IT READS IS OF BULK AT MOST 1048576: true; the input reads as it did. -/
def fnExactFixedByUptoRow : OpenClaim := { program := "ytgfdkolhldbehaa", sum := "801d06f93a4ef47068991c7d10e6c5bbde6777d26ba039b98a62e12b120f26c3", func := "loop.example/g00613/laws.FnExactFixedBy", spec := "fnExactFixedBy", unfollowed := true, recurses := true, plainKeys := false, apart := false, narrowed := true }
def FnExactFixedByUptoSaid : Prop := fnExactFixedByUptoRow.holds Try.pinned (OpenSpec.upto fnExactFixedBySpec)

/-- 'laws.FnExactClassesOf', WHERE WHAT IT READS IS OF BULK AT MOST 1048576: true; the input reads as it did. -/
def fnExactClassesOfUptoRow : OpenClaim := { program := "ytgfdkolhldbehaa", sum := "801d06f93a4ef47068991c7d10e6c5bbde6777d26ba039b98a62e12b120f26c3", func := "loop.example/g00613/laws.FnExactClassesOf", spec := "fnExactClassesOf", unfollowed := true, recurses := true, plainKeys := false, apart := false, narrowed := true }
def FnExactClassesOfUptoSaid : Prop := fnExactClassesOfUptoRow.holds Try.pinned (OpenSpec.upto fnExactClassesOfSpec)

/-- 'laws.FnExactSquareBy', WHERE WHAT IT READS IS OF BULK AT MOST 1048576: true; the input reads as it did. -/
def fnExactSquareByUptoRow : OpenClaim := { program := "ytgfdkolhldbehaa", sum := "801d06f93a4ef47068991c7d10e6c5bbde6777d26ba039b98a62e12b120f26c3", func := "loop.example/g00613/laws.FnExactSquareBy", spec := "fnExactSquareBy", plainKeys := false, apart := false, narrowed := true }
def FnExactSquareByUptoSaid : Prop := fnExactSquareByUptoRow.holds Try.pinned (OpenSpec.upto fnExactSquareBySpec)

end Rows
end Go.Proofs.Ytgfdkolhldbehaa
