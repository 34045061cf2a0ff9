/-
  DERIVED. GIVEN WITH THE SEED: THE CARDS: each row of YtkijellhmjbmfaaDoorRows.lean that lists a variable, with what it lists TIED to the program's text (the seventh form; the later family's looks); each row that meets fmt, with fmt's text TOLD by the authors' own Lean function (tested against real Go, not proved from fmt's source: count such statements apart). THE CARD IS WHAT COUNTS. Prove the row's statement (the work); the ties are given (YtkijellhmjbmfaaDoorTie.lean); close each card by the builder's one call (the guide's Derived/Test/ToyasCard.lean, 'card_holds'). Laid BY PROGRAM, IN A SANDBOX (cutbox-door.mjs). By AI agents, Wed Nov 11 2026. No macro, syntax, notation, axiom, sorry.
-/
import Derived.Test.YtkijellhmjbmfaaDoorRows
import GoSem.ClaimSeven
namespace Go.Proofs.YtkijellhmjbmfaaDoor
namespace Rows

/-- THE TIED CARD OF 'bindlelaw20.FootPuts'. -/
def footPutsCard : Claim7 := { stood := { row := footPutsRow, standIns := [], harness := (true, "74ec94f3db4d86e25789c69aa08b1913b3fa8ee10ac588798f7c780c75258176"), looks := false }, kinds := [], alts := [], laidByText := true, laidKinds := [.data, .data, .pinned], laidTests := true, laidLooks := .later }
def FootPutsCardSaid : Prop := Claim7.holds Tryd.pinned (.plain (OpenSpec.ofChange footPutsSpec)) footPutsCard

/-- THE TIED CARD OF 'bindlelaw20.FootBack'. -/
def footBackCard : Claim7 := { stood := { row := footBackRow, standIns := [], harness := (true, "74ec94f3db4d86e25789c69aa08b1913b3fa8ee10ac588798f7c780c75258176"), looks := false }, kinds := [], alts := [], laidByText := true, laidKinds := [.data, .data, .pinned], laidTests := true, laidLooks := .later }
def FootBackCardSaid : Prop := Claim7.holds Tryd.pinned (.plain (OpenSpec.ofChange footBackSpec)) footBackCard

/-- THE TIED CARD OF 'bindlelaw20.FootFlips'. -/
def footFlipsCard : Claim7 := { stood := { row := footFlipsRow, standIns := [], harness := (true, "74ec94f3db4d86e25789c69aa08b1913b3fa8ee10ac588798f7c780c75258176"), looks := false }, kinds := [], alts := [], laidByText := true, laidKinds := [.data, .data, .pinned], laidTests := true, laidLooks := .later }
def FootFlipsCardSaid : Prop := Claim7.holds Tryd.pinned (.plain (OpenSpec.ofChange footFlipsSpec)) footFlipsCard

/-- THE SECOND FORM's CARD OF 'bindlelaw20.FootPuts'. -/
def footPutsUptoCard : Claim7 := { stood := { row := footPutsUptoRow, standIns := [], harness := (true, "74ec94f3db4d86e25789c69aa08b1913b3fa8ee10ac588798f7c780c75258176"), looks := false }, kinds := [], alts := [], laidByText := true, laidKinds := [.data, .data, .pinned], laidTests := true, laidLooks := .later }
def FootPutsUptoCardSaid : Prop := Claim7.holds Tryd.pinned (.plain (OpenSpec.upto footPutsSpec)) footPutsUptoCard

/-- THE SECOND FORM's CARD OF 'bindlelaw20.FootBack'. -/
def footBackUptoCard : Claim7 := { stood := { row := footBackUptoRow, standIns := [], harness := (true, "74ec94f3db4d86e25789c69aa08b1913b3fa8ee10ac588798f7c780c75258176"), looks := false }, kinds := [], alts := [], laidByText := true, laidKinds := [.data, .data, .pinned], laidTests := true, laidLooks := .later }
def FootBackUptoCardSaid : Prop := Claim7.holds Tryd.pinned (.plain (OpenSpec.upto footBackSpec)) footBackUptoCard

/-- THE SECOND FORM's CARD OF 'bindlelaw20.FootFlips'. -/
def footFlipsUptoCard : Claim7 := { stood := { row := footFlipsUptoRow, standIns := [], harness := (true, "74ec94f3db4d86e25789c69aa08b1913b3fa8ee10ac588798f7c780c75258176"), looks := false }, kinds := [], alts := [], laidByText := true, laidKinds := [.data, .data, .pinned], laidTests := true, laidLooks := .later }
def FootFlipsUptoCardSaid : Prop := Claim7.holds Tryd.pinned (.plain (OpenSpec.upto footFlipsSpec)) footFlipsUptoCard
end Rows
end Go.Proofs.YtkijellhmjbmfaaDoor
