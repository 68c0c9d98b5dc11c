/-
  No cell of these rows narrows 'for every input' (looked for: loops, veiled, ifaces, maps, wideKeys, modest, calm, conditions, laid).
  DERIVED. THE GIVEN ROWS OF THIS SEAT. 7 by the template 'for every input the law returns true; each argument reads behind the call as it read before'; 0 by the template 'total and deterministic' (their statements: YtnabgfbempkgnaaTotals.lean).
  GIVEN WITH THE SEED: the statements are not yours to turn. If you find one false, say at which input.
  Laid BY PROGRAM, IN A SANDBOX (cutbox-rows.mjs): the forced cells as the released guide's own fill.sh prints them over the translation 1619a210bc70a3cb… (all of the seat's roots in one cut). By AI agents, Wed Nov 11 2026. No macro, syntax, notation, axiom, sorry.
-/
import Derived.Test.YtnabgfbempkgnaaChecked
import GoSem.Claim
import GoSem.ClaimJoined
import GoSem.ClaimMapViews
import Derived.JoinedTies
import Derived.KernelRfl
namespace Go.Proofs.Ytnabgfbempkgnaa
/- THE CELL 'sum', in the pinned program and in every row, IS THE sha256 OF THE DUMP (.gsa) THAT YtnabgfbempkgnaaProg.lean LOADS. Nothing in Lean hashes anything: it is a label: what it is worth is what the hold of that sum in a sandbox is worth. -/
noncomputable def Try.pinned : Pinned := { name := "ytnabgfbempkgnaa", sum := "1619a210bc70a3cbb2cabaa226280b93e24fb3a71203421707f29cfa2e632e90", checked := Try.checked }
namespace Rows
def none {H : Type} : Left H := { results := [], args := [] }

/-- 'laws.FnExactNewWorld': WHATEVER THE INPUT: true; the input reads as it did. -/
def fnExactNewWorldSpec : ChangeSpec := { name := "fnExactNewWorld", fn := fun _ => fun
  | [d] => { results := [.lit (.bool true)], args := [d] }
  | _ => none }
def fnExactNewWorldRow : OpenClaim := { program := "ytnabgfbempkgnaa", sum := "1619a210bc70a3cbb2cabaa226280b93e24fb3a71203421707f29cfa2e632e90", func := "loop.example/g00613/laws.FnExactNewWorld", spec := "fnExactNewWorld", unfollowed := true, recurses := true, plainKeys := false, apart := false }
def FnExactNewWorldSaid : Prop := fnExactNewWorldRow.holds Try.pinned (OpenSpec.ofChange fnExactNewWorldSpec)

/-- ITS FALSE NEIGHBOUR: 'it returns false'. Refute it at one input. -/
def fnExactNewWorldWrong : ChangeSpec := { name := "fnExactNewWorld", fn := fun _ => fun
  | [d] => { results := [.lit (.bool false)], args := [d] }
  | _ => none }
def FnExactNewWorldWrongFalsely : Prop := fnExactNewWorldRow.holds Try.pinned (OpenSpec.ofChange fnExactNewWorldWrong)

/-- 'laws.FnExactGoodWorld': WHATEVER THE INPUT: true; the input reads as it did. -/
def fnExactGoodWorldSpec : ChangeSpec := { name := "fnExactGoodWorld", fn := fun _ => fun
  | [d] => { results := [.lit (.bool true)], args := [d] }
  | _ => none }
def fnExactGoodWorldRow : OpenClaim := { program := "ytnabgfbempkgnaa", sum := "1619a210bc70a3cbb2cabaa226280b93e24fb3a71203421707f29cfa2e632e90", func := "loop.example/g00613/laws.FnExactGoodWorld", spec := "fnExactGoodWorld", plainKeys := false, apart := false }
def FnExactGoodWorldSaid : Prop := fnExactGoodWorldRow.holds Try.pinned (OpenSpec.ofChange fnExactGoodWorldSpec)

/-- ITS FALSE NEIGHBOUR: 'it returns false'. Refute it at one input. -/
def fnExactGoodWorldWrong : ChangeSpec := { name := "fnExactGoodWorld", fn := fun _ => fun
  | [d] => { results := [.lit (.bool false)], args := [d] }
  | _ => none }
def FnExactGoodWorldWrongFalsely : Prop := fnExactGoodWorldRow.holds Try.pinned (OpenSpec.ofChange fnExactGoodWorldWrong)

/-- 'laws.FnExactAdvance': WHATEVER THE INPUT: true; the input reads as it did. -/
def fnExactAdvanceSpec : ChangeSpec := { name := "fnExactAdvance", fn := fun _ => fun
  | [d1, d2] => { results := [.lit (.bool true)], args := [d1, d2] }
  | _ => none }
def fnExactAdvanceRow : OpenClaim := { program := "ytnabgfbempkgnaa", sum := "1619a210bc70a3cbb2cabaa226280b93e24fb3a71203421707f29cfa2e632e90", func := "loop.example/g00613/laws.FnExactAdvance", spec := "fnExactAdvance", unfollowed := true, recurses := true, plainKeys := false, apart := false }
def FnExactAdvanceSaid : Prop := fnExactAdvanceRow.holds Try.pinned (OpenSpec.ofChange fnExactAdvanceSpec)

/-- ITS FALSE NEIGHBOUR: 'it returns false'. Refute it at one input. -/
def fnExactAdvanceWrong : ChangeSpec := { name := "fnExactAdvance", fn := fun _ => fun
  | [d1, d2] => { results := [.lit (.bool false)], args := [d1, d2] }
  | _ => none }
def FnExactAdvanceWrongFalsely : Prop := fnExactAdvanceRow.holds Try.pinned (OpenSpec.ofChange fnExactAdvanceWrong)

/-- 'laws.FnExactSquareFor': WHATEVER THE INPUT: true; the input reads as it did. -/
def fnExactSquareForSpec : ChangeSpec := { name := "fnExactSquareFor", fn := fun _ => fun
  | [d1, d2] => { results := [.lit (.bool true)], args := [d1, d2] }
  | _ => none }
def fnExactSquareForRow : OpenClaim := { program := "ytnabgfbempkgnaa", sum := "1619a210bc70a3cbb2cabaa226280b93e24fb3a71203421707f29cfa2e632e90", func := "loop.example/g00613/laws.FnExactSquareFor", spec := "fnExactSquareFor", plainKeys := false, apart := false }
def FnExactSquareForSaid : Prop := fnExactSquareForRow.holds Try.pinned (OpenSpec.ofChange fnExactSquareForSpec)

/-- ITS FALSE NEIGHBOUR: 'it returns false'. Refute it at one input. -/
def fnExactSquareForWrong : ChangeSpec := { name := "fnExactSquareFor", fn := fun _ => fun
  | [d1, d2] => { results := [.lit (.bool false)], args := [d1, d2] }
  | _ => none }
def FnExactSquareForWrongFalsely : Prop := fnExactSquareForRow.holds Try.pinned (OpenSpec.ofChange fnExactSquareForWrong)

/-- 'laws.FnExactAdvanceByTree': WHATEVER THE INPUT: true; the input reads as it did. -/
def fnExactAdvanceByTreeSpec : ChangeSpec := { name := "fnExactAdvanceByTree", fn := fun _ => fun
  | [d1, d2] => { results := [.lit (.bool true)], args := [d1, d2] }
  | _ => none }
def fnExactAdvanceByTreeRow : OpenClaim := { program := "ytnabgfbempkgnaa", sum := "1619a210bc70a3cbb2cabaa226280b93e24fb3a71203421707f29cfa2e632e90", func := "loop.example/g00613/laws.FnExactAdvanceByTree", spec := "fnExactAdvanceByTree", unfollowed := true, recurses := true, plainKeys := false, apart := false }
def FnExactAdvanceByTreeSaid : Prop := fnExactAdvanceByTreeRow.holds Try.pinned (OpenSpec.ofChange fnExactAdvanceByTreeSpec)

/-- ITS FALSE NEIGHBOUR: 'it returns false'. Refute it at one input. -/
def fnExactAdvanceByTreeWrong : ChangeSpec := { name := "fnExactAdvanceByTree", fn := fun _ => fun
  | [d1, d2] => { results := [.lit (.bool false)], args := [d1, d2] }
  | _ => none }
def FnExactAdvanceByTreeWrongFalsely : Prop := fnExactAdvanceByTreeRow.holds Try.pinned (OpenSpec.ofChange fnExactAdvanceByTreeWrong)

/-- 'laws.FnExactSameWorld': WHATEVER THE INPUT: true; the input reads as it did. -/
def fnExactSameWorldSpec : ChangeSpec := { name := "fnExactSameWorld", fn := fun _ => fun
  | [d1, d2] => { results := [.lit (.bool true)], args := [d1, d2] }
  | _ => none }
def fnExactSameWorldRow : OpenClaim := { program := "ytnabgfbempkgnaa", sum := "1619a210bc70a3cbb2cabaa226280b93e24fb3a71203421707f29cfa2e632e90", func := "loop.example/g00613/laws.FnExactSameWorld", spec := "fnExactSameWorld", plainKeys := false, apart := false }
def FnExactSameWorldSaid : Prop := fnExactSameWorldRow.holds Try.pinned (OpenSpec.ofChange fnExactSameWorldSpec)

/-- ITS FALSE NEIGHBOUR: 'it returns false'. Refute it at one input. -/
def fnExactSameWorldWrong : ChangeSpec := { name := "fnExactSameWorld", fn := fun _ => fun
  | [d1, d2] => { results := [.lit (.bool false)], args := [d1, d2] }
  | _ => none }
def FnExactSameWorldWrongFalsely : Prop := fnExactSameWorldRow.holds Try.pinned (OpenSpec.ofChange fnExactSameWorldWrong)

/-- 'laws.FnExactMoveWorld': WHATEVER THE INPUT: true; the input reads as it did. -/
def fnExactMoveWorldSpec : ChangeSpec := { name := "fnExactMoveWorld", fn := fun _ => fun
  | [d1, d2, d3] => { results := [.lit (.bool true)], args := [d1, d2, d3] }
  | _ => none }
def fnExactMoveWorldRow : OpenClaim := { program := "ytnabgfbempkgnaa", sum := "1619a210bc70a3cbb2cabaa226280b93e24fb3a71203421707f29cfa2e632e90", func := "loop.example/g00613/laws.FnExactMoveWorld", spec := "fnExactMoveWorld", plainKeys := false, apart := false }
def FnExactMoveWorldSaid : Prop := fnExactMoveWorldRow.holds Try.pinned (OpenSpec.ofChange fnExactMoveWorldSpec)

/-- ITS FALSE NEIGHBOUR: 'it returns false'. Refute it at one input. -/
def fnExactMoveWorldWrong : ChangeSpec := { name := "fnExactMoveWorld", fn := fun _ => fun
  | [d1, d2, d3] => { results := [.lit (.bool false)], args := [d1, d2, d3] }
  | _ => none }
def FnExactMoveWorldWrongFalsely : Prop := fnExactMoveWorldRow.holds Try.pinned (OpenSpec.ofChange fnExactMoveWorldWrong)

/- THE SECOND FORM. 'bulk': how many values and letters a reading holds, each counted each time it is reached (what is shared counts as often as it is met; a slice's spare places count too). A statement '..UptoSaid' is the law's where the arguments, and the package variables that the reading takes, are together of bulk at most 1048576: NARROWER than '..Said'. Prove '..Said' where nothing that the law and all that it calls make is longer than what came in: it says more and counts as full. Else prove '..UptoSaid'. A law counts once. -/
mutual
def uptoBulk {H : Type} : DataW H → Nat
  | .lit (.string bytes) => bytes.length + 1
  | .lit _ => 1
  | .nil => 1
  | .ptr d => uptoBulk d + 1
  | .slice elems spare => uptoBulkAll elems + uptoBulkAll spare + 1
  | .agg parts => uptoBulkAll parts + 1
  | .iface _ d => uptoBulk d + 1
  | .map entries => uptoBulkEntries entries + 1
  | .held _ => 1
def uptoBulkAll {H : Type} : List (DataW H) → Nat
  | [] => 0
  | d :: r => uptoBulk d + uptoBulkAll r
def uptoBulkEntries {H : Type} : List (Lit × DataW H) → Nat
  | [] => 0
  | x :: r => uptoBulkEntry x + uptoBulkEntries r
def uptoBulkEntry {H : Type} : Lit × DataW H → Nat
  | (.string bytes, d) => bytes.length + uptoBulk d + 1
  | (_, d) => uptoBulk d + 1
 end
def uptoSmall : (H : Type) → List (DataW H) → Bool := fun _ ds => decide (uptoBulkAll ds ≤ 1048576)
def OpenSpec.upto (s : _root_.Go.ChangeSpec) : _root_.Go.OpenSpec := { _root_.Go.OpenSpec.ofChange s with cond := some uptoSmall }

/-- 'laws.FnExactNewWorld', WHERE WHAT IT READS IS OF BULK AT MOST 1048576: true; the input reads as it did. -/
def fnExactNewWorldUptoRow : OpenClaim := { program := "ytnabgfbempkgnaa", sum := "1619a210bc70a3cbb2cabaa226280b93e24fb3a71203421707f29cfa2e632e90", func := "loop.example/g00613/laws.FnExactNewWorld", spec := "fnExactNewWorld", unfollowed := true, recurses := true, plainKeys := false, apart := false, narrowed := true }
def FnExactNewWorldUptoSaid : Prop := fnExactNewWorldUptoRow.holds Try.pinned (OpenSpec.upto fnExactNewWorldSpec)

/-- 'laws.FnExactGoodWorld', WHERE WHAT IT READS IS OF BULK AT MOST 1048576: true; the input reads as it did. -/
def fnExactGoodWorldUptoRow : OpenClaim := { program := "ytnabgfbempkgnaa", sum := "1619a210bc70a3cbb2cabaa226280b93e24fb3a71203421707f29cfa2e632e90", func := "loop.example/g00613/laws.FnExactGoodWorld", spec := "fnExactGoodWorld", plainKeys := false, apart := false, narrowed := true }
def FnExactGoodWorldUptoSaid : Prop := fnExactGoodWorldUptoRow.holds Try.pinned (OpenSpec.upto fnExactGoodWorldSpec)

/-- 'laws.FnExactAdvance', WHERE WHAT IT READS IS OF BULK AT MOST 1048576: true; the input reads as it did. -/
def fnExactAdvanceUptoRow : OpenClaim := { program := "ytnabgfbempkgnaa", sum := "1619a210bc70a3cbb2cabaa226280b93e24fb3a71203421707f29cfa2e632e90", func := "loop.example/g00613/laws.FnExactAdvance", spec := "fnExactAdvance", unfollowed := true, recurses := true, plainKeys := false, apart := false, narrowed := true }
def FnExactAdvanceUptoSaid : Prop := fnExactAdvanceUptoRow.holds Try.pinned (OpenSpec.upto fnExactAdvanceSpec)

/-- 'laws.FnExactSquareFor', WHERE WHAT IT READS IS OF BULK AT MOST 1048576: true; the input reads as it did. -/
def fnExactSquareForUptoRow : OpenClaim := { program := "ytnabgfbempkgnaa", sum := "1619a210bc70a3cbb2cabaa226280b93e24fb3a71203421707f29cfa2e632e90", func := "loop.example/g00613/laws.FnExactSquareFor", spec := "fnExactSquareFor", plainKeys := false, apart := false, narrowed := true }
def FnExactSquareForUptoSaid : Prop := fnExactSquareForUptoRow.holds Try.pinned (OpenSpec.upto fnExactSquareForSpec)

/-- 'laws.FnExactAdvanceByTree', WHERE WHAT IT READS IS OF BULK AT MOST 1048576: true; the input reads as it did. -/
def fnExactAdvanceByTreeUptoRow : OpenClaim := { program := "ytnabgfbempkgnaa", sum := "1619a210bc70a3cbb2cabaa226280b93e24fb3a71203421707f29cfa2e632e90", func := "loop.example/g00613/laws.FnExactAdvanceByTree", spec := "fnExactAdvanceByTree", unfollowed := true, recurses := true, plainKeys := false, apart := false, narrowed := true }
def FnExactAdvanceByTreeUptoSaid : Prop := fnExactAdvanceByTreeUptoRow.holds Try.pinned (OpenSpec.upto fnExactAdvanceByTreeSpec)

/-- 'laws.FnExactSameWorld', WHERE WHAT IT READS IS OF BULK AT MOST 1048576: true; the input reads as it did. -/
def fnExactSameWorldUptoRow : OpenClaim := { program := "ytnabgfbempkgnaa", sum := "1619a210bc70a3cbb2cabaa226280b93e24fb3a71203421707f29cfa2e632e90", func := "loop.example/g00613/laws.FnExactSameWorld", spec := "fnExactSameWorld", plainKeys := false, apart := false, narrowed := true }
def FnExactSameWorldUptoSaid : Prop := fnExactSameWorldUptoRow.holds Try.pinned (OpenSpec.upto fnExactSameWorldSpec)

/-- 'laws.FnExactMoveWorld', WHERE WHAT IT READS IS OF BULK AT MOST 1048576: true; the input reads as it did. -/
def fnExactMoveWorldUptoRow : OpenClaim := { program := "ytnabgfbempkgnaa", sum := "1619a210bc70a3cbb2cabaa226280b93e24fb3a71203421707f29cfa2e632e90", func := "loop.example/g00613/laws.FnExactMoveWorld", spec := "fnExactMoveWorld", plainKeys := false, apart := false, narrowed := true }
def FnExactMoveWorldUptoSaid : Prop := fnExactMoveWorldUptoRow.holds Try.pinned (OpenSpec.upto fnExactMoveWorldSpec)

end Rows
end Go.Proofs.Ytnabgfbempkgnaa
