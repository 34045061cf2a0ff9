/-
  DERIVED. GIVEN WITH THE SEED: THE CARDS: each row of YtaneifmbjkolaaaDoorRows.lean that lists a variable, with what it lists TIED to the program's text (the seventh form; the later family's looks); each row that meets fmt, with fmt's text TOLD by the authors' own Lean function (tested against real Go, not proved from fmt's source: count such statements apart). THE CARD IS WHAT COUNTS. Prove the row's statement (the work); the ties are given (YtaneifmbjkolaaaDoorTie.lean); close each card by the builder's one call (the guide's Derived/Test/ToyasCard.lean, 'card_holds'). Laid BY PROGRAM, IN A SANDBOX (cutbox-door.mjs). By AI agents, Wed Nov 11 2026. No macro, syntax, notation, axiom, sorry.
-/
import Derived.Test.YtaneifmbjkolaaaDoorRows
import GoSem.ClaimSeven
namespace Go.Proofs.YtaneifmbjkolaaaDoor
namespace Rows

/-- THE TIED CARD OF 'bindlelaw25.ModelMaps'. -/
def modelMapsCard : Claim7 := { stood := { row := modelMapsRow, standIns := [], harness := (true, "36fe73d592a9e7ca1098809ed7192eb2f51b6ffffd92fe4d5f0698f4ca918e2d"), looks := false }, kinds := [], alts := [], laidByText := true, laidKinds := [.data, .pinned], laidTests := true, laidLooks := .later }
def ModelMapsCardSaid : Prop := Claim7.holds Tryd.pinned (.plain (OpenSpec.ofChange modelMapsSpec)) modelMapsCard

/-- THE TIED CARD OF 'bindlelaw25.ModelGets'. -/
def modelGetsCard : Claim7 := { stood := { row := modelGetsRow, standIns := [], harness := (true, "36fe73d592a9e7ca1098809ed7192eb2f51b6ffffd92fe4d5f0698f4ca918e2d"), looks := false }, kinds := [], alts := [], laidByText := true, laidKinds := [.data, .pinned], laidTests := true, laidLooks := .later }
def ModelGetsCardSaid : Prop := Claim7.holds Tryd.pinned (.plain (OpenSpec.ofChange modelGetsSpec)) modelGetsCard

/-- THE TIED CARD OF 'bindlelaw25.ModelFinds'. -/
def modelFindsCard : Claim7 := { stood := { row := modelFindsRow, standIns := [], harness := (true, "36fe73d592a9e7ca1098809ed7192eb2f51b6ffffd92fe4d5f0698f4ca918e2d"), looks := false }, kinds := [], alts := [], laidByText := true, laidKinds := [.data, .pinned], laidTests := true, laidLooks := .later }
def ModelFindsCardSaid : Prop := Claim7.holds Tryd.pinned (.plain (OpenSpec.ofChange modelFindsSpec)) modelFindsCard

/-- THE SECOND FORM's CARD OF 'bindlelaw25.ModelMaps'. -/
def modelMapsUptoCard : Claim7 := { stood := { row := modelMapsUptoRow, standIns := [], harness := (true, "36fe73d592a9e7ca1098809ed7192eb2f51b6ffffd92fe4d5f0698f4ca918e2d"), looks := false }, kinds := [], alts := [], laidByText := true, laidKinds := [.data, .pinned], laidTests := true, laidLooks := .later }
def ModelMapsUptoCardSaid : Prop := Claim7.holds Tryd.pinned (.plain (OpenSpec.upto modelMapsSpec)) modelMapsUptoCard

/-- THE SECOND FORM's CARD OF 'bindlelaw25.ModelGets'. -/
def modelGetsUptoCard : Claim7 := { stood := { row := modelGetsUptoRow, standIns := [], harness := (true, "36fe73d592a9e7ca1098809ed7192eb2f51b6ffffd92fe4d5f0698f4ca918e2d"), looks := false }, kinds := [], alts := [], laidByText := true, laidKinds := [.data, .pinned], laidTests := true, laidLooks := .later }
def ModelGetsUptoCardSaid : Prop := Claim7.holds Tryd.pinned (.plain (OpenSpec.upto modelGetsSpec)) modelGetsUptoCard

/-- THE SECOND FORM's CARD OF 'bindlelaw25.ModelFinds'. -/
def modelFindsUptoCard : Claim7 := { stood := { row := modelFindsUptoRow, standIns := [], harness := (true, "36fe73d592a9e7ca1098809ed7192eb2f51b6ffffd92fe4d5f0698f4ca918e2d"), looks := false }, kinds := [], alts := [], laidByText := true, laidKinds := [.data, .pinned], laidTests := true, laidLooks := .later }
def ModelFindsUptoCardSaid : Prop := Claim7.holds Tryd.pinned (.plain (OpenSpec.upto modelFindsSpec)) modelFindsUptoCard
end Rows
end Go.Proofs.YtaneifmbjkolaaaDoor
