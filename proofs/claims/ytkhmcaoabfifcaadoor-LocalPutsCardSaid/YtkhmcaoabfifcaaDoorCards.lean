/-
  DERIVED. GIVEN WITH THE SEED: THE CARDS: each row of YtkhmcaoabfifcaaDoorRows.lean that lists a variable, with what it lists TIED to the program's text (the seventh form; the later family's looks); each row that meets fmt, with fmt's text TOLD by the authors' own Lean function (tested against real Go, not proved from fmt's source: count such statements apart). THE CARD IS WHAT COUNTS. Prove the row's statement (the work); the ties are given (YtkhmcaoabfifcaaDoorTie.lean); close each card by the builder's one call (the guide's Derived/Test/ToyasCard.lean, 'card_holds'). Laid BY PROGRAM, IN A SANDBOX (cutbox-door.mjs). By AI agents, Wed Nov 11 2026. No macro, syntax, notation, axiom, sorry.
-/
import Derived.Test.YtkhmcaoabfifcaaDoorRows
import GoSem.ClaimSeven
namespace Go.Proofs.YtkhmcaoabfifcaaDoor
namespace Rows

/-- THE TIED CARD OF 'bindlelaw16.LocalPuts'. -/
def localPutsCard : Claim7 := { stood := { row := localPutsRow, standIns := [], harness := (true, "6fe5204e470b7470bda576cd35326ab8c54744d2d455b9324e6d9e009fa976fd"), looks := false }, kinds := [], alts := [], laidByText := true, laidKinds := [.data, .data, .pinned], laidTests := true, laidLooks := .later }
def LocalPutsCardSaid : Prop := Claim7.holds Tryd.pinned (.plain (OpenSpec.ofChange localPutsSpec)) localPutsCard

/-- THE TIED CARD OF 'bindlelaw16.LocalTakes'. -/
def localTakesCard : Claim7 := { stood := { row := localTakesRow, standIns := [], harness := (true, "6fe5204e470b7470bda576cd35326ab8c54744d2d455b9324e6d9e009fa976fd"), looks := false }, kinds := [], alts := [], laidByText := true, laidKinds := [.data, .data, .pinned], laidTests := true, laidLooks := .later }
def LocalTakesCardSaid : Prop := Claim7.holds Tryd.pinned (.plain (OpenSpec.ofChange localTakesSpec)) localTakesCard

/-- THE TIED CARD OF 'bindlelaw16.LocalBack'. -/
def localBackCard : Claim7 := { stood := { row := localBackRow, standIns := [], harness := (true, "6fe5204e470b7470bda576cd35326ab8c54744d2d455b9324e6d9e009fa976fd"), looks := false }, kinds := [], alts := [], laidByText := true, laidKinds := [.data, .data, .pinned], laidTests := true, laidLooks := .later }
def LocalBackCardSaid : Prop := Claim7.holds Tryd.pinned (.plain (OpenSpec.ofChange localBackSpec)) localBackCard

/-- THE SECOND FORM's CARD OF 'bindlelaw16.LocalPuts'. -/
def localPutsUptoCard : Claim7 := { stood := { row := localPutsUptoRow, standIns := [], harness := (true, "6fe5204e470b7470bda576cd35326ab8c54744d2d455b9324e6d9e009fa976fd"), looks := false }, kinds := [], alts := [], laidByText := true, laidKinds := [.data, .data, .pinned], laidTests := true, laidLooks := .later }
def LocalPutsUptoCardSaid : Prop := Claim7.holds Tryd.pinned (.plain (OpenSpec.upto localPutsSpec)) localPutsUptoCard

/-- THE SECOND FORM's CARD OF 'bindlelaw16.LocalTakes'. -/
def localTakesUptoCard : Claim7 := { stood := { row := localTakesUptoRow, standIns := [], harness := (true, "6fe5204e470b7470bda576cd35326ab8c54744d2d455b9324e6d9e009fa976fd"), looks := false }, kinds := [], alts := [], laidByText := true, laidKinds := [.data, .data, .pinned], laidTests := true, laidLooks := .later }
def LocalTakesUptoCardSaid : Prop := Claim7.holds Tryd.pinned (.plain (OpenSpec.upto localTakesSpec)) localTakesUptoCard

/-- THE SECOND FORM's CARD OF 'bindlelaw16.LocalBack'. -/
def localBackUptoCard : Claim7 := { stood := { row := localBackUptoRow, standIns := [], harness := (true, "6fe5204e470b7470bda576cd35326ab8c54744d2d455b9324e6d9e009fa976fd"), looks := false }, kinds := [], alts := [], laidByText := true, laidKinds := [.data, .data, .pinned], laidTests := true, laidLooks := .later }
def LocalBackUptoCardSaid : Prop := Claim7.holds Tryd.pinned (.plain (OpenSpec.upto localBackSpec)) localBackUptoCard
end Rows
end Go.Proofs.YtkhmcaoabfifcaaDoor
