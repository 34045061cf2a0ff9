/-
  DERIVED. GIVEN WITH THE SEED: THE CARDS: each row of YtlbhflhmakdfmaaDoorRows.lean that lists a variable, with what it lists TIED to the program's text (the seventh form; the later family's looks); each row that meets fmt, with fmt's text TOLD by the authors' own Lean function (tested against real Go, not proved from fmt's source: count such statements apart). THE CARD IS WHAT COUNTS. Prove the row's statement (the work); the ties are given (YtlbhflhmakdfmaaDoorTie.lean); close each card by the builder's one call (the guide's Derived/Test/ToyasCard.lean, 'card_holds'). Laid BY PROGRAM, IN A SANDBOX (cutbox-door.mjs). By AI agents, Wed Nov 11 2026. No macro, syntax, notation, axiom, sorry.
-/
import Derived.Test.YtlbhflhmakdfmaaDoorRows
import GoSem.ClaimSeven
namespace Go.Proofs.YtlbhflhmakdfmaaDoor
namespace Rows

/-- THE TIED CARD OF 'bindlelaw16.LocalTakes'. -/
def localTakesCard : Claim7 := { stood := { row := localTakesRow, standIns := [], harness := (true, "9f640031e9a9acbb24a2d42cd3bcf826a2d0204f0c3205456460462673cefdef"), looks := false }, kinds := [], alts := [], laidByText := true, laidKinds := [.data, .data, .pinned], laidTests := true, laidLooks := .later }
def LocalTakesCardSaid : Prop := Claim7.holds Tryd.pinned (.plain (OpenSpec.ofChange localTakesSpec)) localTakesCard

/-- THE SECOND FORM's CARD OF 'bindlelaw16.LocalTakes'. -/
def localTakesUptoCard : Claim7 := { stood := { row := localTakesUptoRow, standIns := [], harness := (true, "9f640031e9a9acbb24a2d42cd3bcf826a2d0204f0c3205456460462673cefdef"), looks := false }, kinds := [], alts := [], laidByText := true, laidKinds := [.data, .data, .pinned], laidTests := true, laidLooks := .later }
def LocalTakesUptoCardSaid : Prop := Claim7.holds Tryd.pinned (.plain (OpenSpec.upto localTakesSpec)) localTakesUptoCard
end Rows
end Go.Proofs.YtlbhflhmakdfmaaDoor
