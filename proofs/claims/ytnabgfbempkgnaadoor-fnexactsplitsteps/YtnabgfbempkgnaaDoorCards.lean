/-
  DERIVED. GIVEN WITH THE SEED: THE CARDS: each row of YtnabgfbempkgnaaDoorRows.lean that lists a variable, with what it lists TIED to the program's text (the seventh form; the later family's looks); each row that meets fmt, with fmt's text TOLD by the authors' own Lean function (tested against real Go, not proved from fmt's source: count such statements apart). THE CARD IS WHAT COUNTS. Prove the row's statement (the work); the ties are given (YtnabgfbempkgnaaDoorTie.lean); close each card by the builder's one call (the guide's Derived/Test/ToyasCard.lean, 'card_holds'). Laid BY PROGRAM, IN A SANDBOX (cutbox-door.mjs). By AI agents, Wed Nov 11 2026. No macro, syntax, notation, axiom, sorry.
-/
import Derived.Test.YtnabgfbempkgnaaDoorRows
import GoSem.ClaimSeven
namespace Go.Proofs.YtnabgfbempkgnaaDoor
namespace Rows

/-- THE TIED CARD OF 'laws.FnWorlds'. -/
def fnWorldsCard : Claim7 := { stood := { row := fnWorldsRow, standIns := [], harness := (true, "b932c08c051771325a379e8352fe0ef363c798fd11f3713f9805a1673eec0f7c"), looks := false }, kinds := [], alts := [], laidByText := true, laidKinds := [.data], laidTests := true, laidLooks := .later }
def FnWorldsCardSaid : Prop := Claim7.holds Tryd.pinned (.plain (OpenSpec.ofChange fnWorldsSpec)) fnWorldsCard

/-- THE TIED CARD OF 'laws.FnExactSplitSteps'. -/
def fnExactSplitStepsCard : Claim7 := { stood := { row := fnExactSplitStepsRow, standIns := [], harness := (true, "b932c08c051771325a379e8352fe0ef363c798fd11f3713f9805a1673eec0f7c"), looks := false }, kinds := [], alts := [], laidByText := true, laidKinds := [.data], laidTests := true, laidLooks := .later }
def FnExactSplitStepsCardSaid : Prop := Claim7.holds Tryd.pinned (.plain (OpenSpec.ofChange fnExactSplitStepsSpec)) fnExactSplitStepsCard

/-- THE SECOND FORM's CARD OF 'laws.FnWorlds'. -/
def fnWorldsUptoCard : Claim7 := { stood := { row := fnWorldsUptoRow, standIns := [], harness := (true, "b932c08c051771325a379e8352fe0ef363c798fd11f3713f9805a1673eec0f7c"), looks := false }, kinds := [], alts := [], laidByText := true, laidKinds := [.data], laidTests := true, laidLooks := .later }
def FnWorldsUptoCardSaid : Prop := Claim7.holds Tryd.pinned (.plain (OpenSpec.upto fnWorldsSpec)) fnWorldsUptoCard

/-- THE SECOND FORM's CARD OF 'laws.FnExactSplitSteps'. -/
def fnExactSplitStepsUptoCard : Claim7 := { stood := { row := fnExactSplitStepsUptoRow, standIns := [], harness := (true, "b932c08c051771325a379e8352fe0ef363c798fd11f3713f9805a1673eec0f7c"), looks := false }, kinds := [], alts := [], laidByText := true, laidKinds := [.data], laidTests := true, laidLooks := .later }
def FnExactSplitStepsUptoCardSaid : Prop := Claim7.holds Tryd.pinned (.plain (OpenSpec.upto fnExactSplitStepsSpec)) fnExactSplitStepsUptoCard
end Rows
end Go.Proofs.YtnabgfbempkgnaaDoor
