/-
  DERIVED. GIVEN WITH THE SEED: THE CARDS: each row of YthnoobhjkhafcaaDoorRows.lean that lists a variable, with what it lists TIED to the program's text (the seventh form; the later family's looks); each row that meets fmt, with fmt's text TOLD by the authors' own Lean function (tested against real Go, not proved from fmt's source: count such statements apart). THE CARD IS WHAT COUNTS. Prove the row's statement (the work); the ties are given (YthnoobhjkhafcaaDoorTie.lean); close each card by the builder's one call (the guide's Derived/Test/ToyasCard.lean, 'card_holds'). Laid BY PROGRAM, IN A SANDBOX (cutbox-door.mjs). By AI agents, Wed Nov 11 2026. No macro, syntax, notation, axiom, sorry.
-/
import Derived.Test.YthnoobhjkhafcaaDoorRows
import GoSem.ClaimSeven
namespace Go.Proofs.YthnoobhjkhafcaaDoor
namespace Rows

/-- THE TIED CARD OF 'bindlelaw19.EntryPuts'. -/
def entryPutsCard : Claim7 := { stood := { row := entryPutsRow, standIns := [], harness := (true, "6e6f05f4191af6366f4144b75c58850e2cd81297ca985f4cb117887c266ef120"), looks := false }, kinds := [], alts := [], laidByText := true, laidKinds := [.data, .data, .pinned], laidTests := true, laidLooks := .later }
def EntryPutsCardSaid : Prop := Claim7.holds Tryd.pinned (.plain (OpenSpec.ofChange entryPutsSpec)) entryPutsCard

/-- THE TIED CARD OF 'bindlelaw19.EntrySames'. -/
def entrySamesCard : Claim7 := { stood := { row := entrySamesRow, standIns := [], harness := (true, "6e6f05f4191af6366f4144b75c58850e2cd81297ca985f4cb117887c266ef120"), looks := false }, kinds := [], alts := [], laidByText := true, laidKinds := [.data, .data, .pinned], laidTests := true, laidLooks := .later }
def EntrySamesCardSaid : Prop := Claim7.holds Tryd.pinned (.plain (OpenSpec.ofChange entrySamesSpec)) entrySamesCard

/-- THE TIED CARD OF 'bindlelaw20.FootBack'. -/
def footBackCard : Claim7 := { stood := { row := footBackRow, standIns := [], harness := (true, "6e6f05f4191af6366f4144b75c58850e2cd81297ca985f4cb117887c266ef120"), looks := false }, kinds := [], alts := [], laidByText := true, laidKinds := [.data, .data, .pinned], laidTests := true, laidLooks := .later }
def FootBackCardSaid : Prop := Claim7.holds Tryd.pinned (.plain (OpenSpec.ofChange footBackSpec)) footBackCard

/-- THE TIED CARD OF 'bindlelaw20.FootFlips'. -/
def footFlipsCard : Claim7 := { stood := { row := footFlipsRow, standIns := [], harness := (true, "6e6f05f4191af6366f4144b75c58850e2cd81297ca985f4cb117887c266ef120"), looks := false }, kinds := [], alts := [], laidByText := true, laidKinds := [.data, .data, .pinned], laidTests := true, laidLooks := .later }
def FootFlipsCardSaid : Prop := Claim7.holds Tryd.pinned (.plain (OpenSpec.ofChange footFlipsSpec)) footFlipsCard

/-- THE SECOND FORM's CARD OF 'bindlelaw19.EntryPuts'. -/
def entryPutsUptoCard : Claim7 := { stood := { row := entryPutsUptoRow, standIns := [], harness := (true, "6e6f05f4191af6366f4144b75c58850e2cd81297ca985f4cb117887c266ef120"), looks := false }, kinds := [], alts := [], laidByText := true, laidKinds := [.data, .data, .pinned], laidTests := true, laidLooks := .later }
def EntryPutsUptoCardSaid : Prop := Claim7.holds Tryd.pinned (.plain (OpenSpec.upto entryPutsSpec)) entryPutsUptoCard

/-- THE SECOND FORM's CARD OF 'bindlelaw19.EntrySames'. -/
def entrySamesUptoCard : Claim7 := { stood := { row := entrySamesUptoRow, standIns := [], harness := (true, "6e6f05f4191af6366f4144b75c58850e2cd81297ca985f4cb117887c266ef120"), looks := false }, kinds := [], alts := [], laidByText := true, laidKinds := [.data, .data, .pinned], laidTests := true, laidLooks := .later }
def EntrySamesUptoCardSaid : Prop := Claim7.holds Tryd.pinned (.plain (OpenSpec.upto entrySamesSpec)) entrySamesUptoCard

/-- THE SECOND FORM's CARD OF 'bindlelaw20.FootBack'. -/
def footBackUptoCard : Claim7 := { stood := { row := footBackUptoRow, standIns := [], harness := (true, "6e6f05f4191af6366f4144b75c58850e2cd81297ca985f4cb117887c266ef120"), looks := false }, kinds := [], alts := [], laidByText := true, laidKinds := [.data, .data, .pinned], laidTests := true, laidLooks := .later }
def FootBackUptoCardSaid : Prop := Claim7.holds Tryd.pinned (.plain (OpenSpec.upto footBackSpec)) footBackUptoCard

/-- THE SECOND FORM's CARD OF 'bindlelaw20.FootFlips'. -/
def footFlipsUptoCard : Claim7 := { stood := { row := footFlipsUptoRow, standIns := [], harness := (true, "6e6f05f4191af6366f4144b75c58850e2cd81297ca985f4cb117887c266ef120"), looks := false }, kinds := [], alts := [], laidByText := true, laidKinds := [.data, .data, .pinned], laidTests := true, laidLooks := .later }
def FootFlipsUptoCardSaid : Prop := Claim7.holds Tryd.pinned (.plain (OpenSpec.upto footFlipsSpec)) footFlipsUptoCard
end Rows
end Go.Proofs.YthnoobhjkhafcaaDoor
