/-
  No cell of these rows narrows 'for every input' (looked for: loops, veiled, ifaces, maps, wideKeys, modest, calm, conditions, laid).
  DERIVED. THE GIVEN ROWS OF THIS SEAT. 4 by the template 'for every input the law returns true; each argument reads behind the call as it read before'; 0 by the template 'total and deterministic' (their statements: YtokemdbgcegjiaaTotals.lean).
  GIVEN WITH THE SEED: the statements are not yours to turn. If you find one false, say at which input.
  Laid BY PROGRAM, IN A SANDBOX (cutbox-rows.mjs): the forced cells as the released guide's own fill.sh prints them over the translation f8d044b9fc39db8e… (all of the seat's roots in one cut). By AI agents, Wed Nov 11 2026. No macro, syntax, notation, axiom, sorry.
-/
import Derived.Test.YtokemdbgcegjiaaChecked
import GoSem.Claim
import GoSem.ClaimJoined
import GoSem.ClaimMapViews
import Derived.JoinedTies
import Derived.KernelRfl
namespace Go.Proofs.Ytokemdbgcegjiaa
/- THE CELL 'sum', in the pinned program and in every row, IS THE sha256 OF THE DUMP (.gsa) THAT YtokemdbgcegjiaaProg.lean LOADS. Nothing in Lean hashes anything: it is a label: what it is worth is what the hold of that sum in a sandbox is worth. -/
noncomputable def Try.pinned : Pinned := { name := "ytokemdbgcegjiaa", sum := "f8d044b9fc39db8e0687b0edb63fb6fea80c772d86f1a0efc458dbbc8007f2f7", checked := Try.checked }
namespace Rows
def none {H : Type} : Left H := { results := [], args := [] }

/-- 'laws.FnExactStepsFor': WHATEVER THE INPUT: true; the input reads as it did. -/
def fnExactStepsForSpec : ChangeSpec := { name := "fnExactStepsFor", fn := fun _ => fun
  | [d] => { results := [.lit (.bool true)], args := [d] }
  | _ => none }
def fnExactStepsForRow : OpenClaim := { program := "ytokemdbgcegjiaa", sum := "f8d044b9fc39db8e0687b0edb63fb6fea80c772d86f1a0efc458dbbc8007f2f7", func := "loop.example/g00613/laws.FnExactStepsFor", spec := "fnExactStepsFor", plainKeys := false, apart := false }
def FnExactStepsForSaid : Prop := fnExactStepsForRow.holds Try.pinned (OpenSpec.ofChange fnExactStepsForSpec)

/-- ITS FALSE NEIGHBOUR: 'it returns false'. Refute it at one input. -/
def fnExactStepsForWrong : ChangeSpec := { name := "fnExactStepsFor", fn := fun _ => fun
  | [d] => { results := [.lit (.bool false)], args := [d] }
  | _ => none }
def FnExactStepsForWrongFalsely : Prop := fnExactStepsForRow.holds Try.pinned (OpenSpec.ofChange fnExactStepsForWrong)

/-- 'laws.FnExactNineOf': WHATEVER THE INPUT: true; the input reads as it did. -/
def fnExactNineOfSpec : ChangeSpec := { name := "fnExactNineOf", fn := fun _ => fun
  | [d1, d2] => { results := [.lit (.bool true)], args := [d1, d2] }
  | _ => none }
def fnExactNineOfRow : OpenClaim := { program := "ytokemdbgcegjiaa", sum := "f8d044b9fc39db8e0687b0edb63fb6fea80c772d86f1a0efc458dbbc8007f2f7", func := "loop.example/g00613/laws.FnExactNineOf", spec := "fnExactNineOf", recurses := true, plainKeys := false, apart := false }
def FnExactNineOfSaid : Prop := fnExactNineOfRow.holds Try.pinned (OpenSpec.ofChange fnExactNineOfSpec)

/-- ITS FALSE NEIGHBOUR: 'it returns false'. Refute it at one input. -/
def fnExactNineOfWrong : ChangeSpec := { name := "fnExactNineOf", fn := fun _ => fun
  | [d1, d2] => { results := [.lit (.bool false)], args := [d1, d2] }
  | _ => none }
def FnExactNineOfWrongFalsely : Prop := fnExactNineOfRow.holds Try.pinned (OpenSpec.ofChange fnExactNineOfWrong)

/-- 'laws.FnExactFourOf': WHATEVER THE INPUT: true; the input reads as it did. -/
def fnExactFourOfSpec : ChangeSpec := { name := "fnExactFourOf", fn := fun _ => fun
  | [d1, d2] => { results := [.lit (.bool true)], args := [d1, d2] }
  | _ => none }
def fnExactFourOfRow : OpenClaim := { program := "ytokemdbgcegjiaa", sum := "f8d044b9fc39db8e0687b0edb63fb6fea80c772d86f1a0efc458dbbc8007f2f7", func := "loop.example/g00613/laws.FnExactFourOf", spec := "fnExactFourOf", plainKeys := false, apart := false }
def FnExactFourOfSaid : Prop := fnExactFourOfRow.holds Try.pinned (OpenSpec.ofChange fnExactFourOfSpec)

/-- ITS FALSE NEIGHBOUR: 'it returns false'. Refute it at one input. -/
def fnExactFourOfWrong : ChangeSpec := { name := "fnExactFourOf", fn := fun _ => fun
  | [d1, d2] => { results := [.lit (.bool false)], args := [d1, d2] }
  | _ => none }
def FnExactFourOfWrongFalsely : Prop := fnExactFourOfRow.holds Try.pinned (OpenSpec.ofChange fnExactFourOfWrong)

/-- 'laws.FnExactSafeIn': WHATEVER THE INPUT: true; the input reads as it did. -/
def fnExactSafeInSpec : ChangeSpec := { name := "fnExactSafeIn", fn := fun _ => fun
  | [d1, d2, d3] => { results := [.lit (.bool true)], args := [d1, d2, d3] }
  | _ => none }
def fnExactSafeInRow : OpenClaim := { program := "ytokemdbgcegjiaa", sum := "f8d044b9fc39db8e0687b0edb63fb6fea80c772d86f1a0efc458dbbc8007f2f7", func := "loop.example/g00613/laws.FnExactSafeIn", spec := "fnExactSafeIn", unfollowed := true, recurses := true, plainKeys := false, apart := false }
def FnExactSafeInSaid : Prop := fnExactSafeInRow.holds Try.pinned (OpenSpec.ofChange fnExactSafeInSpec)

/-- ITS FALSE NEIGHBOUR: 'it returns false'. Refute it at one input. -/
def fnExactSafeInWrong : ChangeSpec := { name := "fnExactSafeIn", fn := fun _ => fun
  | [d1, d2, d3] => { results := [.lit (.bool false)], args := [d1, d2, d3] }
  | _ => none }
def FnExactSafeInWrongFalsely : Prop := fnExactSafeInRow.holds Try.pinned (OpenSpec.ofChange fnExactSafeInWrong)

/- THE SECOND FORM. 'bulk': how many values and letters a reading holds, each counted each time it is reached (what is shared counts as often as it is met; a slice's spare places count too). A statement '..UptoSaid' is the law's where the arguments, and the package variables that the reading takes, are together of bulk at most 1048576: NARROWER than '..Said'. Prove '..Said' where nothing that the law and all that it calls make is longer than what came in: it says more and counts as full. Else prove '..UptoSaid'. A law counts once. -/
mutual
def uptoBulk {H : Type} : DataW H → Nat
  | .lit (.string bytes) => bytes.length + 1
  | .lit _ => 1
  | .nil => 1
  | .ptr d => uptoBulk d + 1
  | .slice elems spare => uptoBulkAll elems + uptoBulkAll spare + 1
  | .agg parts => uptoBulkAll parts + 1
  | .iface _ d => uptoBulk d + 1
  | .map entries => uptoBulkEntries entries + 1
  | .held _ => 1
def uptoBulkAll {H : Type} : List (DataW H) → Nat
  | [] => 0
  | d :: r => uptoBulk d + uptoBulkAll r
def uptoBulkEntries {H : Type} : List (Lit × DataW H) → Nat
  | [] => 0
  | x :: r => uptoBulkEntry x + uptoBulkEntries r
def uptoBulkEntry {H : Type} : Lit × DataW H → Nat
  | (.string bytes, d) => bytes.length + uptoBulk d + 1
  | (_, d) => uptoBulk d + 1
 end
def uptoSmall : (H : Type) → List (DataW H) → Bool := fun _ ds => decide (uptoBulkAll ds ≤ 1048576)
def OpenSpec.upto (s : _root_.Go.ChangeSpec) : _root_.Go.OpenSpec := { _root_.Go.OpenSpec.ofChange s with cond := some uptoSmall }

/-- 'laws.FnExactStepsFor', WHERE WHAT IT READS IS OF BULK AT MOST 1048576: true; the input reads as it did. -/
def fnExactStepsForUptoRow : OpenClaim := { program := "ytokemdbgcegjiaa", sum := "f8d044b9fc39db8e0687b0edb63fb6fea80c772d86f1a0efc458dbbc8007f2f7", func := "loop.example/g00613/laws.FnExactStepsFor", spec := "fnExactStepsFor", plainKeys := false, apart := false, narrowed := true }
def FnExactStepsForUptoSaid : Prop := fnExactStepsForUptoRow.holds Try.pinned (OpenSpec.upto fnExactStepsForSpec)

/-- 'laws.FnExactNineOf', WHERE WHAT IT READS IS OF BULK AT MOST 1048576: true; the input reads as it did. -/
def fnExactNineOfUptoRow : OpenClaim := { program := "ytokemdbgcegjiaa", sum := "f8d044b9fc39db8e0687b0edb63fb6fea80c772d86f1a0efc458dbbc8007f2f7", func := "loop.example/g00613/laws.FnExactNineOf", spec := "fnExactNineOf", recurses := true, plainKeys := false, apart := false, narrowed := true }
def FnExactNineOfUptoSaid : Prop := fnExactNineOfUptoRow.holds Try.pinned (OpenSpec.upto fnExactNineOfSpec)

/-- 'laws.FnExactFourOf', WHERE WHAT IT READS IS OF BULK AT MOST 1048576: true; the input reads as it did. -/
def fnExactFourOfUptoRow : OpenClaim := { program := "ytokemdbgcegjiaa", sum := "f8d044b9fc39db8e0687b0edb63fb6fea80c772d86f1a0efc458dbbc8007f2f7", func := "loop.example/g00613/laws.FnExactFourOf", spec := "fnExactFourOf", plainKeys := false, apart := false, narrowed := true }
def FnExactFourOfUptoSaid : Prop := fnExactFourOfUptoRow.holds Try.pinned (OpenSpec.upto fnExactFourOfSpec)

/-- 'laws.FnExactSafeIn', WHERE WHAT IT READS IS OF BULK AT MOST 1048576: true; the input reads as it did. -/
def fnExactSafeInUptoRow : OpenClaim := { program := "ytokemdbgcegjiaa", sum := "f8d044b9fc39db8e0687b0edb63fb6fea80c772d86f1a0efc458dbbc8007f2f7", func := "loop.example/g00613/laws.FnExactSafeIn", spec := "fnExactSafeIn", unfollowed := true, recurses := true, plainKeys := false, apart := false, narrowed := true }
def FnExactSafeInUptoSaid : Prop := fnExactSafeInUptoRow.holds Try.pinned (OpenSpec.upto fnExactSafeInSpec)

end Rows
end Go.Proofs.Ytokemdbgcegjiaa
