/-
  DERIVED. GIVEN WITH THE SEED: THE CARDS: each row of YtnabgfbempkgnaaGreatDoorRows.lean that lists a variable, with what it lists TIED to the program's text (the seventh form; the later family's looks); each row that meets fmt, with fmt's text TOLD by the authors' own Lean function (tested against real Go, not proved from fmt's source: count such statements apart). THE CARD IS WHAT COUNTS. Prove the row's statement (the work); the ties are given (YtnabgfbempkgnaaGreatDoorTie.lean); close each card by the builder's one call (the guide's Derived/Test/ToyasCard.lean, 'card_holds'). Laid BY PROGRAM, IN A SANDBOX (cutbox-door.mjs). By AI agents, Wed Nov 11 2026. No macro, syntax, notation, axiom, sorry.
-/
import Derived.Test.YtnabgfbempkgnaaGreatDoorRows
import GoSem.ClaimSeven
namespace Go.Proofs.YtnabgfbempkgnaaGreatDoor
namespace Rows

/-- THE TIED CARD OF 'laws.FnAdvanced'. -/
def fnAdvancedCard : Claim7 := { stood := { row := fnAdvancedRow, standIns := [], harness := (true, "10f70481af19398b7693dccaad75698595e17aab18afcddc2b6f11742d990756"), looks := false }, kinds := [], alts := [], laidByText := true, laidKinds := [.data], laidTests := true, laidLooks := .later }
def FnAdvancedCardSaid : Prop := Claim7.holds Tryz.pinned (.plain (OpenSpec.ofChange fnAdvancedSpec)) fnAdvancedCard

/-- THE SECOND FORM's CARD OF 'laws.FnAdvanced'. -/
def fnAdvancedUptoCard : Claim7 := { stood := { row := fnAdvancedUptoRow, standIns := [], harness := (true, "10f70481af19398b7693dccaad75698595e17aab18afcddc2b6f11742d990756"), looks := false }, kinds := [], alts := [], laidByText := true, laidKinds := [.data], laidTests := true, laidLooks := .later }
def FnAdvancedUptoCardSaid : Prop := Claim7.holds Tryz.pinned (.plain (OpenSpec.upto fnAdvancedSpec)) fnAdvancedUptoCard
end Rows
end Go.Proofs.YtnabgfbempkgnaaGreatDoor
