/-
  No cell of these rows narrows 'for every input' (looked for: loops, veiled, ifaces, maps, wideKeys, modest, calm, conditions, laid).
  DERIVED. THE GIVEN ROWS OF THIS SEAT. 9 by the template 'for every input the law returns true; each argument reads behind the call as it read before'; 0 by the template 'total and deterministic' (their statements: YtapinopicehdmaaTotals.lean).
  GIVEN WITH THE SEED: the statements are not yours to turn. If you find one false, say at which input.
  Laid BY PROGRAM, IN A SANDBOX (cutbox-rows.mjs): the forced cells as the released guide's own fill.sh prints them over the translation 77c77f18c0f13591… (all of the seat's roots in one cut). By AI agents, Wed Nov 11 2026. No macro, syntax, notation, axiom, sorry.
-/
import Derived.Test.YtapinopicehdmaaChecked
import GoSem.Claim
import GoSem.ClaimJoined
import GoSem.ClaimMapViews
import Derived.JoinedTies
import Derived.KernelRfl
namespace Go.Proofs.Ytapinopicehdmaa
/- THE CELL 'sum', in the pinned program and in every row, IS THE sha256 OF THE DUMP (.gsa) THAT YtapinopicehdmaaProg.lean LOADS. Nothing in Lean hashes anything: it is a label: what it is worth is what the hold of that sum in a sandbox is worth. -/
noncomputable def Try.pinned : Pinned := { name := "ytapinopicehdmaa", sum := "77c77f18c0f135918b3cb1c1638562a33240ad556be0e5f0fc2b39e3fa38579f", checked := Try.checked }
namespace Rows
def none {H : Type} : Left H := { results := [], args := [] }

/-- 'laws.FnExactGoodCells': WHATEVER THE INPUT: true; the input reads as it did. -/
def fnExactGoodCellsSpec : ChangeSpec := { name := "fnExactGoodCells", fn := fun _ => fun
  | [d] => { results := [.lit (.bool true)], args := [d] }
  | _ => none }
def fnExactGoodCellsRow : OpenClaim := { program := "ytapinopicehdmaa", sum := "77c77f18c0f135918b3cb1c1638562a33240ad556be0e5f0fc2b39e3fa38579f", func := "loop.example/g00613/laws.FnExactGoodCells", spec := "fnExactGoodCells", plainKeys := false, apart := false }
def FnExactGoodCellsSaid : Prop := fnExactGoodCellsRow.holds Try.pinned (OpenSpec.ofChange fnExactGoodCellsSpec)

/-- ITS FALSE NEIGHBOUR: 'it returns false'. Refute it at one input. -/
def fnExactGoodCellsWrong : ChangeSpec := { name := "fnExactGoodCells", fn := fun _ => fun
  | [d] => { results := [.lit (.bool false)], args := [d] }
  | _ => none }
def FnExactGoodCellsWrongFalsely : Prop := fnExactGoodCellsRow.holds Try.pinned (OpenSpec.ofChange fnExactGoodCellsWrong)

/-- 'laws.FnExactNearOf': WHATEVER THE INPUT: true; the input reads as it did. -/
def fnExactNearOfSpec : ChangeSpec := { name := "fnExactNearOf", fn := fun _ => fun
  | [d1, d2] => { results := [.lit (.bool true)], args := [d1, d2] }
  | _ => none }
def fnExactNearOfRow : OpenClaim := { program := "ytapinopicehdmaa", sum := "77c77f18c0f135918b3cb1c1638562a33240ad556be0e5f0fc2b39e3fa38579f", func := "loop.example/g00613/laws.FnExactNearOf", spec := "fnExactNearOf", unfollowed := true, recurses := true, plainKeys := false, apart := false }
def FnExactNearOfSaid : Prop := fnExactNearOfRow.holds Try.pinned (OpenSpec.ofChange fnExactNearOfSpec)

/-- ITS FALSE NEIGHBOUR: 'it returns false'. Refute it at one input. -/
def fnExactNearOfWrong : ChangeSpec := { name := "fnExactNearOf", fn := fun _ => fun
  | [d1, d2] => { results := [.lit (.bool false)], args := [d1, d2] }
  | _ => none }
def FnExactNearOfWrongFalsely : Prop := fnExactNearOfRow.holds Try.pinned (OpenSpec.ofChange fnExactNearOfWrong)

/-- 'laws.FnExactStepCells': WHATEVER THE INPUT: true; the input reads as it did. -/
def fnExactStepCellsSpec : ChangeSpec := { name := "fnExactStepCells", fn := fun _ => fun
  | [d] => { results := [.lit (.bool true)], args := [d] }
  | _ => none }
def fnExactStepCellsRow : OpenClaim := { program := "ytapinopicehdmaa", sum := "77c77f18c0f135918b3cb1c1638562a33240ad556be0e5f0fc2b39e3fa38579f", func := "loop.example/g00613/laws.FnExactStepCells", spec := "fnExactStepCells", unfollowed := true, recurses := true, plainKeys := false, apart := false }
def FnExactStepCellsSaid : Prop := fnExactStepCellsRow.holds Try.pinned (OpenSpec.ofChange fnExactStepCellsSpec)

/-- ITS FALSE NEIGHBOUR: 'it returns false'. Refute it at one input. -/
def fnExactStepCellsWrong : ChangeSpec := { name := "fnExactStepCells", fn := fun _ => fun
  | [d] => { results := [.lit (.bool false)], args := [d] }
  | _ => none }
def FnExactStepCellsWrongFalsely : Prop := fnExactStepCellsRow.holds Try.pinned (OpenSpec.ofChange fnExactStepCellsWrong)

/-- 'laws.FnExactStepTimes': WHATEVER THE INPUT: true; the input reads as it did. -/
def fnExactStepTimesSpec : ChangeSpec := { name := "fnExactStepTimes", fn := fun _ => fun
  | [d1, d2] => { results := [.lit (.bool true)], args := [d1, d2] }
  | _ => none }
def fnExactStepTimesRow : OpenClaim := { program := "ytapinopicehdmaa", sum := "77c77f18c0f135918b3cb1c1638562a33240ad556be0e5f0fc2b39e3fa38579f", func := "loop.example/g00613/laws.FnExactStepTimes", spec := "fnExactStepTimes", unfollowed := true, recurses := true, plainKeys := false, apart := false }
def FnExactStepTimesSaid : Prop := fnExactStepTimesRow.holds Try.pinned (OpenSpec.ofChange fnExactStepTimesSpec)

/-- ITS FALSE NEIGHBOUR: 'it returns false'. Refute it at one input. -/
def fnExactStepTimesWrong : ChangeSpec := { name := "fnExactStepTimes", fn := fun _ => fun
  | [d1, d2] => { results := [.lit (.bool false)], args := [d1, d2] }
  | _ => none }
def FnExactStepTimesWrongFalsely : Prop := fnExactStepTimesRow.holds Try.pinned (OpenSpec.ofChange fnExactStepTimesWrong)

/-- 'laws.FnExactCellsOf': WHATEVER THE INPUT: true; the input reads as it did. -/
def fnExactCellsOfSpec : ChangeSpec := { name := "fnExactCellsOf", fn := fun _ => fun
  | [d] => { results := [.lit (.bool true)], args := [d] }
  | _ => none }
def fnExactCellsOfRow : OpenClaim := { program := "ytapinopicehdmaa", sum := "77c77f18c0f135918b3cb1c1638562a33240ad556be0e5f0fc2b39e3fa38579f", func := "loop.example/g00613/laws.FnExactCellsOf", spec := "fnExactCellsOf", unfollowed := true, recurses := true, plainKeys := false, apart := false }
def FnExactCellsOfSaid : Prop := fnExactCellsOfRow.holds Try.pinned (OpenSpec.ofChange fnExactCellsOfSpec)

/-- ITS FALSE NEIGHBOUR: 'it returns false'. Refute it at one input. -/
def fnExactCellsOfWrong : ChangeSpec := { name := "fnExactCellsOf", fn := fun _ => fun
  | [d] => { results := [.lit (.bool false)], args := [d] }
  | _ => none }
def FnExactCellsOfWrongFalsely : Prop := fnExactCellsOfRow.holds Try.pinned (OpenSpec.ofChange fnExactCellsOfWrong)

/-- 'laws.FnExactBoxOf': WHATEVER THE INPUT: true; the input reads as it did. -/
def fnExactBoxOfSpec : ChangeSpec := { name := "fnExactBoxOf", fn := fun _ => fun
  | [d] => { results := [.lit (.bool true)], args := [d] }
  | _ => none }
def fnExactBoxOfRow : OpenClaim := { program := "ytapinopicehdmaa", sum := "77c77f18c0f135918b3cb1c1638562a33240ad556be0e5f0fc2b39e3fa38579f", func := "loop.example/g00613/laws.FnExactBoxOf", spec := "fnExactBoxOf", plainKeys := false, apart := false }
def FnExactBoxOfSaid : Prop := fnExactBoxOfRow.holds Try.pinned (OpenSpec.ofChange fnExactBoxOfSpec)

/-- ITS FALSE NEIGHBOUR: 'it returns false'. Refute it at one input. -/
def fnExactBoxOfWrong : ChangeSpec := { name := "fnExactBoxOf", fn := fun _ => fun
  | [d] => { results := [.lit (.bool false)], args := [d] }
  | _ => none }
def FnExactBoxOfWrongFalsely : Prop := fnExactBoxOfRow.holds Try.pinned (OpenSpec.ofChange fnExactBoxOfWrong)

/-- 'laws.FnExactMoveCells': WHATEVER THE INPUT: true; the input reads as it did. -/
def fnExactMoveCellsSpec : ChangeSpec := { name := "fnExactMoveCells", fn := fun _ => fun
  | [d1, d2, d3] => { results := [.lit (.bool true)], args := [d1, d2, d3] }
  | _ => none }
def fnExactMoveCellsRow : OpenClaim := { program := "ytapinopicehdmaa", sum := "77c77f18c0f135918b3cb1c1638562a33240ad556be0e5f0fc2b39e3fa38579f", func := "loop.example/g00613/laws.FnExactMoveCells", spec := "fnExactMoveCells", plainKeys := false, apart := false }
def FnExactMoveCellsSaid : Prop := fnExactMoveCellsRow.holds Try.pinned (OpenSpec.ofChange fnExactMoveCellsSpec)

/-- ITS FALSE NEIGHBOUR: 'it returns false'. Refute it at one input. -/
def fnExactMoveCellsWrong : ChangeSpec := { name := "fnExactMoveCells", fn := fun _ => fun
  | [d1, d2, d3] => { results := [.lit (.bool false)], args := [d1, d2, d3] }
  | _ => none }
def FnExactMoveCellsWrongFalsely : Prop := fnExactMoveCellsRow.holds Try.pinned (OpenSpec.ofChange fnExactMoveCellsWrong)

/-- 'laws.FnExactBothCells': WHATEVER THE INPUT: true; the input reads as it did. -/
def fnExactBothCellsSpec : ChangeSpec := { name := "fnExactBothCells", fn := fun _ => fun
  | [d1, d2] => { results := [.lit (.bool true)], args := [d1, d2] }
  | _ => none }
def fnExactBothCellsRow : OpenClaim := { program := "ytapinopicehdmaa", sum := "77c77f18c0f135918b3cb1c1638562a33240ad556be0e5f0fc2b39e3fa38579f", func := "loop.example/g00613/laws.FnExactBothCells", spec := "fnExactBothCells", unfollowed := true, recurses := true, plainKeys := false, apart := false }
def FnExactBothCellsSaid : Prop := fnExactBothCellsRow.holds Try.pinned (OpenSpec.ofChange fnExactBothCellsSpec)

/-- ITS FALSE NEIGHBOUR: 'it returns false'. Refute it at one input. -/
def fnExactBothCellsWrong : ChangeSpec := { name := "fnExactBothCells", fn := fun _ => fun
  | [d1, d2] => { results := [.lit (.bool false)], args := [d1, d2] }
  | _ => none }
def FnExactBothCellsWrongFalsely : Prop := fnExactBothCellsRow.holds Try.pinned (OpenSpec.ofChange fnExactBothCellsWrong)

/-- 'laws.FnExactIsAlive': WHATEVER THE INPUT: true; the input reads as it did. -/
def fnExactIsAliveSpec : ChangeSpec := { name := "fnExactIsAlive", fn := fun _ => fun
  | [d1, d2] => { results := [.lit (.bool true)], args := [d1, d2] }
  | _ => none }
def fnExactIsAliveRow : OpenClaim := { program := "ytapinopicehdmaa", sum := "77c77f18c0f135918b3cb1c1638562a33240ad556be0e5f0fc2b39e3fa38579f", func := "loop.example/g00613/laws.FnExactIsAlive", spec := "fnExactIsAlive", unfollowed := true, recurses := true, plainKeys := false, apart := false }
def FnExactIsAliveSaid : Prop := fnExactIsAliveRow.holds Try.pinned (OpenSpec.ofChange fnExactIsAliveSpec)

/-- ITS FALSE NEIGHBOUR: 'it returns false'. Refute it at one input. -/
def fnExactIsAliveWrong : ChangeSpec := { name := "fnExactIsAlive", fn := fun _ => fun
  | [d1, d2] => { results := [.lit (.bool false)], args := [d1, d2] }
  | _ => none }
def FnExactIsAliveWrongFalsely : Prop := fnExactIsAliveRow.holds Try.pinned (OpenSpec.ofChange fnExactIsAliveWrong)

/- THE SECOND FORM. 'bulk': how many values and letters a reading holds, each counted each time it is reached (what is shared counts as often as it is met; a slice's spare places count too). A statement '..UptoSaid' is the law's where the arguments, and the package variables that the reading takes, are together of bulk at most 1048576: NARROWER than '..Said'. Prove '..Said' where nothing that the law and all that it calls make is longer than what came in: it says more and counts as full. Else prove '..UptoSaid'. A law counts once. -/
mutual
def uptoBulk {H : Type} : DataW H → Nat
  | .lit (.string bytes) => bytes.length + 1
  | .lit _ => 1
  | .nil => 1
  | .ptr d => uptoBulk d + 1
  | .slice elems spare => uptoBulkAll elems + uptoBulkAll spare + 1
  | .agg parts => uptoBulkAll parts + 1
  | .iface _ d => uptoBulk d + 1
  | .map entries => uptoBulkEntries entries + 1
  | .held _ => 1
def uptoBulkAll {H : Type} : List (DataW H) → Nat
  | [] => 0
  | d :: r => uptoBulk d + uptoBulkAll r
def uptoBulkEntries {H : Type} : List (Lit × DataW H) → Nat
  | [] => 0
  | x :: r => uptoBulkEntry x + uptoBulkEntries r
def uptoBulkEntry {H : Type} : Lit × DataW H → Nat
  | (.string bytes, d) => bytes.length + uptoBulk d + 1
  | (_, d) => uptoBulk d + 1
 end
def uptoSmall : (H : Type) → List (DataW H) → Bool := fun _ ds => decide (uptoBulkAll ds ≤ 1048576)
def OpenSpec.upto (s : _root_.Go.ChangeSpec) : _root_.Go.OpenSpec := { _root_.Go.OpenSpec.ofChange s with cond := some uptoSmall }

/-- 'laws.FnExactGoodCells', WHERE WHAT IT READS IS OF BULK AT MOST 1048576: true; the input reads as it did. -/
def fnExactGoodCellsUptoRow : OpenClaim := { program := "ytapinopicehdmaa", sum := "77c77f18c0f135918b3cb1c1638562a33240ad556be0e5f0fc2b39e3fa38579f", func := "loop.example/g00613/laws.FnExactGoodCells", spec := "fnExactGoodCells", plainKeys := false, apart := false, narrowed := true }
def FnExactGoodCellsUptoSaid : Prop := fnExactGoodCellsUptoRow.holds Try.pinned (OpenSpec.upto fnExactGoodCellsSpec)

/-- 'laws.FnExactNearOf', WHERE WHAT IT READS IS OF BULK AT MOST 1048576: true; the input reads as it did. -/
def fnExactNearOfUptoRow : OpenClaim := { program := "ytapinopicehdmaa", sum := "77c77f18c0f135918b3cb1c1638562a33240ad556be0e5f0fc2b39e3fa38579f", func := "loop.example/g00613/laws.FnExactNearOf", spec := "fnExactNearOf", unfollowed := true, recurses := true, plainKeys := false, apart := false, narrowed := true }
def FnExactNearOfUptoSaid : Prop := fnExactNearOfUptoRow.holds Try.pinned (OpenSpec.upto fnExactNearOfSpec)

/-- 'laws.FnExactStepCells', WHERE WHAT IT READS IS OF BULK AT MOST 1048576: true; the input reads as it did. -/
def fnExactStepCellsUptoRow : OpenClaim := { program := "ytapinopicehdmaa", sum := "77c77f18c0f135918b3cb1c1638562a33240ad556be0e5f0fc2b39e3fa38579f", func := "loop.example/g00613/laws.FnExactStepCells", spec := "fnExactStepCells", unfollowed := true, recurses := true, plainKeys := false, apart := false, narrowed := true }
def FnExactStepCellsUptoSaid : Prop := fnExactStepCellsUptoRow.holds Try.pinned (OpenSpec.upto fnExactStepCellsSpec)

/-- 'laws.FnExactStepTimes', WHERE WHAT IT READS IS OF BULK AT MOST 1048576: true; the input reads as it did. -/
def fnExactStepTimesUptoRow : OpenClaim := { program := "ytapinopicehdmaa", sum := "77c77f18c0f135918b3cb1c1638562a33240ad556be0e5f0fc2b39e3fa38579f", func := "loop.example/g00613/laws.FnExactStepTimes", spec := "fnExactStepTimes", unfollowed := true, recurses := true, plainKeys := false, apart := false, narrowed := true }
def FnExactStepTimesUptoSaid : Prop := fnExactStepTimesUptoRow.holds Try.pinned (OpenSpec.upto fnExactStepTimesSpec)

/-- 'laws.FnExactCellsOf', WHERE WHAT IT READS IS OF BULK AT MOST 1048576: true; the input reads as it did. -/
def fnExactCellsOfUptoRow : OpenClaim := { program := "ytapinopicehdmaa", sum := "77c77f18c0f135918b3cb1c1638562a33240ad556be0e5f0fc2b39e3fa38579f", func := "loop.example/g00613/laws.FnExactCellsOf", spec := "fnExactCellsOf", unfollowed := true, recurses := true, plainKeys := false, apart := false, narrowed := true }
def FnExactCellsOfUptoSaid : Prop := fnExactCellsOfUptoRow.holds Try.pinned (OpenSpec.upto fnExactCellsOfSpec)

/-- 'laws.FnExactBoxOf', WHERE WHAT IT READS IS OF BULK AT MOST 1048576: true; the input reads as it did. -/
def fnExactBoxOfUptoRow : OpenClaim := { program := "ytapinopicehdmaa", sum := "77c77f18c0f135918b3cb1c1638562a33240ad556be0e5f0fc2b39e3fa38579f", func := "loop.example/g00613/laws.FnExactBoxOf", spec := "fnExactBoxOf", plainKeys := false, apart := false, narrowed := true }
def FnExactBoxOfUptoSaid : Prop := fnExactBoxOfUptoRow.holds Try.pinned (OpenSpec.upto fnExactBoxOfSpec)

/-- 'laws.FnExactMoveCells', WHERE WHAT IT READS IS OF BULK AT MOST 1048576: true; the input reads as it did. -/
def fnExactMoveCellsUptoRow : OpenClaim := { program := "ytapinopicehdmaa", sum := "77c77f18c0f135918b3cb1c1638562a33240ad556be0e5f0fc2b39e3fa38579f", func := "loop.example/g00613/laws.FnExactMoveCells", spec := "fnExactMoveCells", plainKeys := false, apart := false, narrowed := true }
def FnExactMoveCellsUptoSaid : Prop := fnExactMoveCellsUptoRow.holds Try.pinned (OpenSpec.upto fnExactMoveCellsSpec)

/-- 'laws.FnExactBothCells', WHERE WHAT IT READS IS OF BULK AT MOST 1048576: true; the input reads as it did. -/
def fnExactBothCellsUptoRow : OpenClaim := { program := "ytapinopicehdmaa", sum := "77c77f18c0f135918b3cb1c1638562a33240ad556be0e5f0fc2b39e3fa38579f", func := "loop.example/g00613/laws.FnExactBothCells", spec := "fnExactBothCells", unfollowed := true, recurses := true, plainKeys := false, apart := false, narrowed := true }
def FnExactBothCellsUptoSaid : Prop := fnExactBothCellsUptoRow.holds Try.pinned (OpenSpec.upto fnExactBothCellsSpec)

/-- 'laws.FnExactIsAlive', WHERE WHAT IT READS IS OF BULK AT MOST 1048576: true; the input reads as it did. -/
def fnExactIsAliveUptoRow : OpenClaim := { program := "ytapinopicehdmaa", sum := "77c77f18c0f135918b3cb1c1638562a33240ad556be0e5f0fc2b39e3fa38579f", func := "loop.example/g00613/laws.FnExactIsAlive", spec := "fnExactIsAlive", unfollowed := true, recurses := true, plainKeys := false, apart := false, narrowed := true }
def FnExactIsAliveUptoSaid : Prop := fnExactIsAliveUptoRow.holds Try.pinned (OpenSpec.upto fnExactIsAliveSpec)

end Rows
end Go.Proofs.Ytapinopicehdmaa
