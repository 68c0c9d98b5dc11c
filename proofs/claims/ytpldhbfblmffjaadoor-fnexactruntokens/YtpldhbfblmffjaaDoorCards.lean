/-
  DERIVED. GIVEN WITH THE SEED: THE CARDS: each row of YtpldhbfblmffjaaDoorRows.lean that lists a variable, with what it lists TIED to the program's text (the seventh form; the later family's looks); each row that meets fmt, with fmt's text TOLD by the authors' own Lean function (tested against real Go, not proved from fmt's source: count such statements apart). THE CARD IS WHAT COUNTS. Prove the row's statement (the work); the ties are given (YtpldhbfblmffjaaDoorTie.lean); close each card by the builder's one call (the guide's Derived/Test/ToyasCard.lean, 'card_holds'). Laid BY PROGRAM, IN A SANDBOX (cutbox-door.mjs). By AI agents, Wed Nov 11 2026. No macro, syntax, notation, axiom, sorry.
-/
import Derived.Test.YtpldhbfblmffjaaDoorRows
import GoSem.ClaimSeven
namespace Go.Proofs.YtpldhbfblmffjaaDoor
namespace Rows

/-- THE TIED CARD OF 'laws.FnExactRunsOf'. -/
def fnExactRunsOfCard : Claim7 := { stood := { row := fnExactRunsOfRow, standIns := [], harness := (true, "5db0d1118ac95dd6dca46cb8a303622337a25de5c97d98156af7847451b9364d"), looks := true }, kinds := [], alts := [], laidByText := true, laidKinds := [.data, .data, .data], laidTests := true, laidLooks := .later }
def FnExactRunsOfCardSaid : Prop := Claim7.holds Tryd.pinned (.plain (OpenSpec.ofChange fnExactRunsOfSpec)) fnExactRunsOfCard

/-- THE TIED CARD OF 'laws.FnExactOfRuns'. -/
def fnExactOfRunsCard : Claim7 := { stood := { row := fnExactOfRunsRow, standIns := [], harness := (true, "5db0d1118ac95dd6dca46cb8a303622337a25de5c97d98156af7847451b9364d"), looks := true }, kinds := [], alts := [], laidByText := true, laidKinds := [.data, .data, .data, .sentinel, .sentinel], laidTests := true, laidLooks := .later }
def FnExactOfRunsCardSaid : Prop := Claim7.holds Tryd.pinned (.plain (OpenSpec.ofChange fnExactOfRunsSpec)) fnExactOfRunsCard

/-- THE TIED CARD OF 'laws.FnExactRunTokens'. -/
def fnExactRunTokensCard : Claim7 := { stood := { row := fnExactRunTokensRow, standIns := [], harness := (true, "5db0d1118ac95dd6dca46cb8a303622337a25de5c97d98156af7847451b9364d"), looks := true }, kinds := [], alts := [], laidByText := true, laidKinds := [.data, .data, .data, .sentinel, .sentinel], laidTests := true, laidLooks := .later }
def FnExactRunTokensCardSaid : Prop := Claim7.holds Tryd.pinned (.plain (OpenSpec.ofChange fnExactRunTokensSpec)) fnExactRunTokensCard

/-- THE TIED CARD OF 'laws.FnExactCountIn'. -/
def fnExactCountInCard : Claim7 := { stood := { row := fnExactCountInRow, standIns := [], harness := (true, "5db0d1118ac95dd6dca46cb8a303622337a25de5c97d98156af7847451b9364d"), looks := true }, kinds := [], alts := [], laidByText := true, laidKinds := [.data, .data, .data, .sentinel, .sentinel], laidTests := true, laidLooks := .later }
def FnExactCountInCardSaid : Prop := Claim7.holds Tryd.pinned (.plain (OpenSpec.ofChange fnExactCountInSpec)) fnExactCountInCard

/-- THE SECOND FORM's CARD OF 'laws.FnExactRunsOf'. -/
def fnExactRunsOfUptoCard : Claim7 := { stood := { row := fnExactRunsOfUptoRow, standIns := [], harness := (true, "5db0d1118ac95dd6dca46cb8a303622337a25de5c97d98156af7847451b9364d"), looks := true }, kinds := [], alts := [], laidByText := true, laidKinds := [.data, .data, .data], laidTests := true, laidLooks := .later }
def FnExactRunsOfUptoCardSaid : Prop := Claim7.holds Tryd.pinned (.plain (OpenSpec.upto fnExactRunsOfSpec)) fnExactRunsOfUptoCard

/-- THE SECOND FORM's CARD OF 'laws.FnExactOfRuns'. -/
def fnExactOfRunsUptoCard : Claim7 := { stood := { row := fnExactOfRunsUptoRow, standIns := [], harness := (true, "5db0d1118ac95dd6dca46cb8a303622337a25de5c97d98156af7847451b9364d"), looks := true }, kinds := [], alts := [], laidByText := true, laidKinds := [.data, .data, .data, .sentinel, .sentinel], laidTests := true, laidLooks := .later }
def FnExactOfRunsUptoCardSaid : Prop := Claim7.holds Tryd.pinned (.plain (OpenSpec.upto fnExactOfRunsSpec)) fnExactOfRunsUptoCard

/-- THE SECOND FORM's CARD OF 'laws.FnExactRunTokens'. -/
def fnExactRunTokensUptoCard : Claim7 := { stood := { row := fnExactRunTokensUptoRow, standIns := [], harness := (true, "5db0d1118ac95dd6dca46cb8a303622337a25de5c97d98156af7847451b9364d"), looks := true }, kinds := [], alts := [], laidByText := true, laidKinds := [.data, .data, .data, .sentinel, .sentinel], laidTests := true, laidLooks := .later }
def FnExactRunTokensUptoCardSaid : Prop := Claim7.holds Tryd.pinned (.plain (OpenSpec.upto fnExactRunTokensSpec)) fnExactRunTokensUptoCard

/-- THE SECOND FORM's CARD OF 'laws.FnExactCountIn'. -/
def fnExactCountInUptoCard : Claim7 := { stood := { row := fnExactCountInUptoRow, standIns := [], harness := (true, "5db0d1118ac95dd6dca46cb8a303622337a25de5c97d98156af7847451b9364d"), looks := true }, kinds := [], alts := [], laidByText := true, laidKinds := [.data, .data, .data, .sentinel, .sentinel], laidTests := true, laidLooks := .later }
def FnExactCountInUptoCardSaid : Prop := Claim7.holds Tryd.pinned (.plain (OpenSpec.upto fnExactCountInSpec)) fnExactCountInUptoCard
end Rows
end Go.Proofs.YtpldhbfblmffjaaDoor
