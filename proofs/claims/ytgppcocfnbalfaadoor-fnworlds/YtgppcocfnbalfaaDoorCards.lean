/-
  DERIVED. GIVEN WITH THE SEED: THE CARDS: each row of YtgppcocfnbalfaaDoorRows.lean that lists a variable, with what it lists TIED to the program's text (the seventh form; the later family's looks); each row that meets fmt, with fmt's text TOLD by the authors' own Lean function (tested against real Go, not proved from fmt's source: count such statements apart). THE CARD IS WHAT COUNTS. Prove the row's statement (the work); the ties are given (YtgppcocfnbalfaaDoorTie.lean); close each card by the builder's one call (the guide's Derived/Test/ToyasCard.lean, 'card_holds'). Laid BY PROGRAM, IN A SANDBOX (cutbox-door.mjs). By AI agents, Wed Nov 11 2026. No macro, syntax, notation, axiom, sorry.
-/
import Derived.Test.YtgppcocfnbalfaaDoorRows
import GoSem.ClaimSeven
namespace Go.Proofs.YtgppcocfnbalfaaDoor
namespace Rows

/-- THE TIED CARD OF 'laws.FnWorlds'. -/
def fnWorldsCard : Claim7 := { stood := { row := fnWorldsRow, standIns := [], harness := (true, "47c19d86b58b0e3a0fa00bf3452e56b0fb6ae5a55c80291b692231103a9cb632"), looks := false }, kinds := [], alts := [], laidByText := true, laidKinds := [.data], laidTests := true, laidLooks := .later }
def FnWorldsCardSaid : Prop := Claim7.holds Tryd.pinned (.plain (OpenSpec.ofChange fnWorldsSpec)) fnWorldsCard

/-- THE SECOND FORM's CARD OF 'laws.FnWorlds'. -/
def fnWorldsUptoCard : Claim7 := { stood := { row := fnWorldsUptoRow, standIns := [], harness := (true, "47c19d86b58b0e3a0fa00bf3452e56b0fb6ae5a55c80291b692231103a9cb632"), looks := false }, kinds := [], alts := [], laidByText := true, laidKinds := [.data], laidTests := true, laidLooks := .later }
def FnWorldsUptoCardSaid : Prop := Claim7.holds Tryd.pinned (.plain (OpenSpec.upto fnWorldsSpec)) fnWorldsUptoCard
end Rows
end Go.Proofs.YtgppcocfnbalfaaDoor
