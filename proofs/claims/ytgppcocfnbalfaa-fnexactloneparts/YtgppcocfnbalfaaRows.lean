/-
  No cell of these rows narrows 'for every input' (looked for: loops, veiled, ifaces, maps, wideKeys, modest, calm, conditions, laid).
  DERIVED. THE GIVEN ROWS OF THIS SEAT. 9 by the template 'for every input the law returns true; each argument reads behind the call as it read before'; 0 by the template 'total and deterministic' (their statements: YtgppcocfnbalfaaTotals.lean).
  GIVEN WITH THE SEED: the statements are not yours to turn. If you find one false, say at which input.
  Laid BY PROGRAM, IN A SANDBOX (cutbox-rows.mjs): the forced cells as the released guide's own fill.sh prints them over the translation d03078f4748c03e2… (all of the seat's roots in one cut). By AI agents, Wed Nov 11 2026. No macro, syntax, notation, axiom, sorry.
-/
import Derived.Test.YtgppcocfnbalfaaChecked
import GoSem.Claim
import GoSem.ClaimJoined
import GoSem.ClaimMapViews
import Derived.JoinedTies
import Derived.KernelRfl
namespace Go.Proofs.Ytgppcocfnbalfaa
/- THE CELL 'sum', in the pinned program and in every row, IS THE sha256 OF THE DUMP (.gsa) THAT YtgppcocfnbalfaaProg.lean LOADS. Nothing in Lean hashes anything: it is a label: what it is worth is what the hold of that sum in a sandbox is worth. -/
noncomputable def Try.pinned : Pinned := { name := "ytgppcocfnbalfaa", sum := "d03078f4748c03e224af7488bb4c2db28e57e54a0a4bdb2165ec9ef7c9ebdae9", checked := Try.checked }
namespace Rows
def none {H : Type} : Left H := { results := [], args := [] }

/-- 'laws.FnPeriods': WHATEVER THE INPUT: true; the input reads as it did. -/
def fnPeriodsSpec : ChangeSpec := { name := "fnPeriods", fn := fun _ => fun
  | [d1, d2] => { results := [.lit (.bool true)], args := [d1, d2] }
  | _ => none }
def fnPeriodsRow : OpenClaim := { program := "ytgppcocfnbalfaa", sum := "d03078f4748c03e224af7488bb4c2db28e57e54a0a4bdb2165ec9ef7c9ebdae9", func := "loop.example/g00613/laws.FnPeriods", spec := "fnPeriods", unfollowed := true, recurses := true, plainKeys := false, apart := false }
def FnPeriodsSaid : Prop := fnPeriodsRow.holds Try.pinned (OpenSpec.ofChange fnPeriodsSpec)

/-- ITS FALSE NEIGHBOUR: 'it returns false'. Refute it at one input. -/
def fnPeriodsWrong : ChangeSpec := { name := "fnPeriods", fn := fun _ => fun
  | [d1, d2] => { results := [.lit (.bool false)], args := [d1, d2] }
  | _ => none }
def FnPeriodsWrongFalsely : Prop := fnPeriodsRow.holds Try.pinned (OpenSpec.ofChange fnPeriodsWrong)

/-- 'laws.FnFates': WHATEVER THE INPUT: true; the input reads as it did. -/
def fnFatesSpec : ChangeSpec := { name := "fnFates", fn := fun _ => fun
  | [d1, d2] => { results := [.lit (.bool true)], args := [d1, d2] }
  | _ => none }
def fnFatesRow : OpenClaim := { program := "ytgppcocfnbalfaa", sum := "d03078f4748c03e224af7488bb4c2db28e57e54a0a4bdb2165ec9ef7c9ebdae9", func := "loop.example/g00613/laws.FnFates", spec := "fnFates", unfollowed := true, recurses := true, plainKeys := false, apart := false }
def FnFatesSaid : Prop := fnFatesRow.holds Try.pinned (OpenSpec.ofChange fnFatesSpec)

/-- ITS FALSE NEIGHBOUR: 'it returns false'. Refute it at one input. -/
def fnFatesWrong : ChangeSpec := { name := "fnFates", fn := fun _ => fun
  | [d1, d2] => { results := [.lit (.bool false)], args := [d1, d2] }
  | _ => none }
def FnFatesWrongFalsely : Prop := fnFatesRow.holds Try.pinned (OpenSpec.ofChange fnFatesWrong)

/-- 'laws.FnExactPeriodOf': WHATEVER THE INPUT: true; the input reads as it did. -/
def fnExactPeriodOfSpec : ChangeSpec := { name := "fnExactPeriodOf", fn := fun _ => fun
  | [d1, d2] => { results := [.lit (.bool true)], args := [d1, d2] }
  | _ => none }
def fnExactPeriodOfRow : OpenClaim := { program := "ytgppcocfnbalfaa", sum := "d03078f4748c03e224af7488bb4c2db28e57e54a0a4bdb2165ec9ef7c9ebdae9", func := "loop.example/g00613/laws.FnExactPeriodOf", spec := "fnExactPeriodOf", unfollowed := true, recurses := true, plainKeys := false, apart := false }
def FnExactPeriodOfSaid : Prop := fnExactPeriodOfRow.holds Try.pinned (OpenSpec.ofChange fnExactPeriodOfSpec)

/-- ITS FALSE NEIGHBOUR: 'it returns false'. Refute it at one input. -/
def fnExactPeriodOfWrong : ChangeSpec := { name := "fnExactPeriodOf", fn := fun _ => fun
  | [d1, d2] => { results := [.lit (.bool false)], args := [d1, d2] }
  | _ => none }
def FnExactPeriodOfWrongFalsely : Prop := fnExactPeriodOfRow.holds Try.pinned (OpenSpec.ofChange fnExactPeriodOfWrong)

/-- 'laws.FnExactFateOf': WHATEVER THE INPUT: true; the input reads as it did. -/
def fnExactFateOfSpec : ChangeSpec := { name := "fnExactFateOf", fn := fun _ => fun
  | [d1, d2] => { results := [.lit (.bool true)], args := [d1, d2] }
  | _ => none }
def fnExactFateOfRow : OpenClaim := { program := "ytgppcocfnbalfaa", sum := "d03078f4748c03e224af7488bb4c2db28e57e54a0a4bdb2165ec9ef7c9ebdae9", func := "loop.example/g00613/laws.FnExactFateOf", spec := "fnExactFateOf", unfollowed := true, recurses := true, plainKeys := false, apart := false }
def FnExactFateOfSaid : Prop := fnExactFateOfRow.holds Try.pinned (OpenSpec.ofChange fnExactFateOfSpec)

/-- ITS FALSE NEIGHBOUR: 'it returns false'. Refute it at one input. -/
def fnExactFateOfWrong : ChangeSpec := { name := "fnExactFateOf", fn := fun _ => fun
  | [d1, d2] => { results := [.lit (.bool false)], args := [d1, d2] }
  | _ => none }
def FnExactFateOfWrongFalsely : Prop := fnExactFateOfRow.holds Try.pinned (OpenSpec.ofChange fnExactFateOfWrong)

/-- 'laws.FnExactIsStill': WHATEVER THE INPUT: true; the input reads as it did. -/
def fnExactIsStillSpec : ChangeSpec := { name := "fnExactIsStill", fn := fun _ => fun
  | [d] => { results := [.lit (.bool true)], args := [d] }
  | _ => none }
def fnExactIsStillRow : OpenClaim := { program := "ytgppcocfnbalfaa", sum := "d03078f4748c03e224af7488bb4c2db28e57e54a0a4bdb2165ec9ef7c9ebdae9", func := "loop.example/g00613/laws.FnExactIsStill", spec := "fnExactIsStill", unfollowed := true, recurses := true, plainKeys := false, apart := false }
def FnExactIsStillSaid : Prop := fnExactIsStillRow.holds Try.pinned (OpenSpec.ofChange fnExactIsStillSpec)

/-- ITS FALSE NEIGHBOUR: 'it returns false'. Refute it at one input. -/
def fnExactIsStillWrong : ChangeSpec := { name := "fnExactIsStill", fn := fun _ => fun
  | [d] => { results := [.lit (.bool false)], args := [d] }
  | _ => none }
def FnExactIsStillWrongFalsely : Prop := fnExactIsStillRow.holds Try.pinned (OpenSpec.ofChange fnExactIsStillWrong)

/-- 'laws.FnExactHistoryOf': WHATEVER THE INPUT: true; the input reads as it did. -/
def fnExactHistoryOfSpec : ChangeSpec := { name := "fnExactHistoryOf", fn := fun _ => fun
  | [d1, d2] => { results := [.lit (.bool true)], args := [d1, d2] }
  | _ => none }
def fnExactHistoryOfRow : OpenClaim := { program := "ytgppcocfnbalfaa", sum := "d03078f4748c03e224af7488bb4c2db28e57e54a0a4bdb2165ec9ef7c9ebdae9", func := "loop.example/g00613/laws.FnExactHistoryOf", spec := "fnExactHistoryOf", unfollowed := true, recurses := true, plainKeys := false, apart := false }
def FnExactHistoryOfSaid : Prop := fnExactHistoryOfRow.holds Try.pinned (OpenSpec.ofChange fnExactHistoryOfSpec)

/-- ITS FALSE NEIGHBOUR: 'it returns false'. Refute it at one input. -/
def fnExactHistoryOfWrong : ChangeSpec := { name := "fnExactHistoryOf", fn := fun _ => fun
  | [d1, d2] => { results := [.lit (.bool false)], args := [d1, d2] }
  | _ => none }
def FnExactHistoryOfWrongFalsely : Prop := fnExactHistoryOfRow.holds Try.pinned (OpenSpec.ofChange fnExactHistoryOfWrong)

/-- 'laws.FnExactDiesWithin': WHATEVER THE INPUT: true; the input reads as it did. -/
def fnExactDiesWithinSpec : ChangeSpec := { name := "fnExactDiesWithin", fn := fun _ => fun
  | [d1, d2] => { results := [.lit (.bool true)], args := [d1, d2] }
  | _ => none }
def fnExactDiesWithinRow : OpenClaim := { program := "ytgppcocfnbalfaa", sum := "d03078f4748c03e224af7488bb4c2db28e57e54a0a4bdb2165ec9ef7c9ebdae9", func := "loop.example/g00613/laws.FnExactDiesWithin", spec := "fnExactDiesWithin", unfollowed := true, recurses := true, plainKeys := false, apart := false }
def FnExactDiesWithinSaid : Prop := fnExactDiesWithinRow.holds Try.pinned (OpenSpec.ofChange fnExactDiesWithinSpec)

/-- ITS FALSE NEIGHBOUR: 'it returns false'. Refute it at one input. -/
def fnExactDiesWithinWrong : ChangeSpec := { name := "fnExactDiesWithin", fn := fun _ => fun
  | [d1, d2] => { results := [.lit (.bool false)], args := [d1, d2] }
  | _ => none }
def FnExactDiesWithinWrongFalsely : Prop := fnExactDiesWithinRow.holds Try.pinned (OpenSpec.ofChange fnExactDiesWithinWrong)

/-- 'laws.FnExactHomeOf': WHATEVER THE INPUT: true; the input reads as it did. -/
def fnExactHomeOfSpec : ChangeSpec := { name := "fnExactHomeOf", fn := fun _ => fun
  | [d] => { results := [.lit (.bool true)], args := [d] }
  | _ => none }
def fnExactHomeOfRow : OpenClaim := { program := "ytgppcocfnbalfaa", sum := "d03078f4748c03e224af7488bb4c2db28e57e54a0a4bdb2165ec9ef7c9ebdae9", func := "loop.example/g00613/laws.FnExactHomeOf", spec := "fnExactHomeOf", plainKeys := false, apart := false }
def FnExactHomeOfSaid : Prop := fnExactHomeOfRow.holds Try.pinned (OpenSpec.ofChange fnExactHomeOfSpec)

/-- ITS FALSE NEIGHBOUR: 'it returns false'. Refute it at one input. -/
def fnExactHomeOfWrong : ChangeSpec := { name := "fnExactHomeOf", fn := fun _ => fun
  | [d] => { results := [.lit (.bool false)], args := [d] }
  | _ => none }
def FnExactHomeOfWrongFalsely : Prop := fnExactHomeOfRow.holds Try.pinned (OpenSpec.ofChange fnExactHomeOfWrong)

/-- 'laws.FnExactLoneParts': WHATEVER THE INPUT: true; the input reads as it did. -/
def fnExactLonePartsSpec : ChangeSpec := { name := "fnExactLoneParts", fn := fun _ => fun
  | [d] => { results := [.lit (.bool true)], args := [d] }
  | _ => none }
def fnExactLonePartsRow : OpenClaim := { program := "ytgppcocfnbalfaa", sum := "d03078f4748c03e224af7488bb4c2db28e57e54a0a4bdb2165ec9ef7c9ebdae9", func := "loop.example/g00613/laws.FnExactLoneParts", spec := "fnExactLoneParts", unfollowed := true, recurses := true, plainKeys := false, apart := false }
def FnExactLonePartsSaid : Prop := fnExactLonePartsRow.holds Try.pinned (OpenSpec.ofChange fnExactLonePartsSpec)

/-- ITS FALSE NEIGHBOUR: 'it returns false'. Refute it at one input. -/
def fnExactLonePartsWrong : ChangeSpec := { name := "fnExactLoneParts", fn := fun _ => fun
  | [d] => { results := [.lit (.bool false)], args := [d] }
  | _ => none }
def FnExactLonePartsWrongFalsely : Prop := fnExactLonePartsRow.holds Try.pinned (OpenSpec.ofChange fnExactLonePartsWrong)

/- THE SECOND FORM. 'bulk': how many values and letters a reading holds, each counted each time it is reached (what is shared counts as often as it is met; a slice's spare places count too). A statement '..UptoSaid' is the law's where the arguments, and the package variables that the reading takes, are together of bulk at most 1048576: NARROWER than '..Said'. Prove '..Said' where nothing that the law and all that it calls make is longer than what came in: it says more and counts as full. Else prove '..UptoSaid'. A law counts once. -/
mutual
def uptoBulk {H : Type} : DataW H → Nat
  | .lit (.string bytes) => bytes.length + 1
  | .lit _ => 1
  | .nil => 1
  | .ptr d => uptoBulk d + 1
  | .slice elems spare => uptoBulkAll elems + uptoBulkAll spare + 1
  | .agg parts => uptoBulkAll parts + 1
  | .iface _ d => uptoBulk d + 1
  | .map entries => uptoBulkEntries entries + 1
  | .held _ => 1
def uptoBulkAll {H : Type} : List (DataW H) → Nat
  | [] => 0
  | d :: r => uptoBulk d + uptoBulkAll r
def uptoBulkEntries {H : Type} : List (Lit × DataW H) → Nat
  | [] => 0
  | x :: r => uptoBulkEntry x + uptoBulkEntries r
def uptoBulkEntry {H : Type} : Lit × DataW H → Nat
  | (.string bytes, d) => bytes.length + uptoBulk d + 1
  | (_, d) => uptoBulk d + 1
 end
def uptoSmall : (H : Type) → List (DataW H) → Bool := fun _ ds => decide (uptoBulkAll ds ≤ 1048576)
def OpenSpec.upto (s : _root_.Go.ChangeSpec) : _root_.Go.OpenSpec := { _root_.Go.OpenSpec.ofChange s with cond := some uptoSmall }

/-- 'laws.FnPeriods', WHERE WHAT IT READS IS OF BULK AT MOST 1048576: true; the input reads as it did. -/
def fnPeriodsUptoRow : OpenClaim := { program := "ytgppcocfnbalfaa", sum := "d03078f4748c03e224af7488bb4c2db28e57e54a0a4bdb2165ec9ef7c9ebdae9", func := "loop.example/g00613/laws.FnPeriods", spec := "fnPeriods", unfollowed := true, recurses := true, plainKeys := false, apart := false, narrowed := true }
def FnPeriodsUptoSaid : Prop := fnPeriodsUptoRow.holds Try.pinned (OpenSpec.upto fnPeriodsSpec)

/-- 'laws.FnFates', WHERE WHAT IT READS IS OF BULK AT MOST 1048576: true; the input reads as it did. -/
def fnFatesUptoRow : OpenClaim := { program := "ytgppcocfnbalfaa", sum := "d03078f4748c03e224af7488bb4c2db28e57e54a0a4bdb2165ec9ef7c9ebdae9", func := "loop.example/g00613/laws.FnFates", spec := "fnFates", unfollowed := true, recurses := true, plainKeys := false, apart := false, narrowed := true }
def FnFatesUptoSaid : Prop := fnFatesUptoRow.holds Try.pinned (OpenSpec.upto fnFatesSpec)

/-- 'laws.FnExactPeriodOf', WHERE WHAT IT READS IS OF BULK AT MOST 1048576: true; the input reads as it did. -/
def fnExactPeriodOfUptoRow : OpenClaim := { program := "ytgppcocfnbalfaa", sum := "d03078f4748c03e224af7488bb4c2db28e57e54a0a4bdb2165ec9ef7c9ebdae9", func := "loop.example/g00613/laws.FnExactPeriodOf", spec := "fnExactPeriodOf", unfollowed := true, recurses := true, plainKeys := false, apart := false, narrowed := true }
def FnExactPeriodOfUptoSaid : Prop := fnExactPeriodOfUptoRow.holds Try.pinned (OpenSpec.upto fnExactPeriodOfSpec)

/-- 'laws.FnExactFateOf', WHERE WHAT IT READS IS OF BULK AT MOST 1048576: true; the input reads as it did. -/
def fnExactFateOfUptoRow : OpenClaim := { program := "ytgppcocfnbalfaa", sum := "d03078f4748c03e224af7488bb4c2db28e57e54a0a4bdb2165ec9ef7c9ebdae9", func := "loop.example/g00613/laws.FnExactFateOf", spec := "fnExactFateOf", unfollowed := true, recurses := true, plainKeys := false, apart := false, narrowed := true }
def FnExactFateOfUptoSaid : Prop := fnExactFateOfUptoRow.holds Try.pinned (OpenSpec.upto fnExactFateOfSpec)

/-- 'laws.FnExactIsStill', WHERE WHAT IT READS IS OF BULK AT MOST 1048576: true; the input reads as it did. -/
def fnExactIsStillUptoRow : OpenClaim := { program := "ytgppcocfnbalfaa", sum := "d03078f4748c03e224af7488bb4c2db28e57e54a0a4bdb2165ec9ef7c9ebdae9", func := "loop.example/g00613/laws.FnExactIsStill", spec := "fnExactIsStill", unfollowed := true, recurses := true, plainKeys := false, apart := false, narrowed := true }
def FnExactIsStillUptoSaid : Prop := fnExactIsStillUptoRow.holds Try.pinned (OpenSpec.upto fnExactIsStillSpec)

/-- 'laws.FnExactHistoryOf', WHERE WHAT IT READS IS OF BULK AT MOST 1048576: true; the input reads as it did. -/
def fnExactHistoryOfUptoRow : OpenClaim := { program := "ytgppcocfnbalfaa", sum := "d03078f4748c03e224af7488bb4c2db28e57e54a0a4bdb2165ec9ef7c9ebdae9", func := "loop.example/g00613/laws.FnExactHistoryOf", spec := "fnExactHistoryOf", unfollowed := true, recurses := true, plainKeys := false, apart := false, narrowed := true }
def FnExactHistoryOfUptoSaid : Prop := fnExactHistoryOfUptoRow.holds Try.pinned (OpenSpec.upto fnExactHistoryOfSpec)

/-- 'laws.FnExactDiesWithin', WHERE WHAT IT READS IS OF BULK AT MOST 1048576: true; the input reads as it did. -/
def fnExactDiesWithinUptoRow : OpenClaim := { program := "ytgppcocfnbalfaa", sum := "d03078f4748c03e224af7488bb4c2db28e57e54a0a4bdb2165ec9ef7c9ebdae9", func := "loop.example/g00613/laws.FnExactDiesWithin", spec := "fnExactDiesWithin", unfollowed := true, recurses := true, plainKeys := false, apart := false, narrowed := true }
def FnExactDiesWithinUptoSaid : Prop := fnExactDiesWithinUptoRow.holds Try.pinned (OpenSpec.upto fnExactDiesWithinSpec)

/-- 'laws.FnExactHomeOf', WHERE WHAT IT READS IS OF BULK AT MOST 1048576: true; the input reads as it did. -/
def fnExactHomeOfUptoRow : OpenClaim := { program := "ytgppcocfnbalfaa", sum := "d03078f4748c03e224af7488bb4c2db28e57e54a0a4bdb2165ec9ef7c9ebdae9", func := "loop.example/g00613/laws.FnExactHomeOf", spec := "fnExactHomeOf", plainKeys := false, apart := false, narrowed := true }
def FnExactHomeOfUptoSaid : Prop := fnExactHomeOfUptoRow.holds Try.pinned (OpenSpec.upto fnExactHomeOfSpec)

/-- 'laws.FnExactLoneParts', WHERE WHAT IT READS IS OF BULK AT MOST 1048576: true; the input reads as it did. -/
def fnExactLonePartsUptoRow : OpenClaim := { program := "ytgppcocfnbalfaa", sum := "d03078f4748c03e224af7488bb4c2db28e57e54a0a4bdb2165ec9ef7c9ebdae9", func := "loop.example/g00613/laws.FnExactLoneParts", spec := "fnExactLoneParts", unfollowed := true, recurses := true, plainKeys := false, apart := false, narrowed := true }
def FnExactLonePartsUptoSaid : Prop := fnExactLonePartsUptoRow.holds Try.pinned (OpenSpec.upto fnExactLonePartsSpec)

end Rows
end Go.Proofs.Ytgppcocfnbalfaa
