/-
  DERIVED. GIVEN WITH THE SEED: THE CARDS: each row of YtakjpkhholgdbaaDoorRows.lean that lists a variable, with what it lists TIED to the program's text (the seventh form; the later family's looks); each row that meets fmt, with fmt's text TOLD by the authors' own Lean function (tested against real Go, not proved from fmt's source: count such statements apart). THE CARD IS WHAT COUNTS. Prove the row's statement (the work); the ties are given (YtakjpkhholgdbaaDoorTie.lean); close each card by the builder's one call (the guide's Derived/Test/ToyasCard.lean, 'card_holds'). Laid BY PROGRAM, IN A SANDBOX (cutbox-door.mjs). By AI agents, Wed Nov 11 2026. No macro, syntax, notation, axiom, sorry.
-/
import Derived.Test.YtakjpkhholgdbaaDoorRows
import GoSem.ClaimSeven
namespace Go.Proofs.YtakjpkhholgdbaaDoor
namespace Rows

/-- THE TIED CARD OF 'bindlelaw17.StonePuts'. -/
def stonePutsCard : Claim7 := { stood := { row := stonePutsRow, standIns := [], harness := (true, "ee57bafaa547d4269e873396ff50610ad7c9ab83dccae86f5076ada5d7e033d5"), looks := false }, kinds := [], alts := [], laidByText := true, laidKinds := [.data, .pinned], laidTests := true, laidLooks := .later }
def StonePutsCardSaid : Prop := Claim7.holds Tryd.pinned (.plain (OpenSpec.ofChange stonePutsSpec)) stonePutsCard

/-- THE TIED CARD OF 'bindlelaw17.StoneTakes'. -/
def stoneTakesCard : Claim7 := { stood := { row := stoneTakesRow, standIns := [], harness := (true, "ee57bafaa547d4269e873396ff50610ad7c9ab83dccae86f5076ada5d7e033d5"), looks := false }, kinds := [], alts := [], laidByText := true, laidKinds := [.data, .pinned], laidTests := true, laidLooks := .later }
def StoneTakesCardSaid : Prop := Claim7.holds Tryd.pinned (.plain (OpenSpec.ofChange stoneTakesSpec)) stoneTakesCard

/-- THE TIED CARD OF 'bindlelaw17.StoneBack'. -/
def stoneBackCard : Claim7 := { stood := { row := stoneBackRow, standIns := [], harness := (true, "ee57bafaa547d4269e873396ff50610ad7c9ab83dccae86f5076ada5d7e033d5"), looks := false }, kinds := [], alts := [], laidByText := true, laidKinds := [.data, .data, .pinned], laidTests := true, laidLooks := .later }
def StoneBackCardSaid : Prop := Claim7.holds Tryd.pinned (.plain (OpenSpec.ofChange stoneBackSpec)) stoneBackCard

/-- THE TIED CARD OF 'bindlelaw17.StoneFlips'. -/
def stoneFlipsCard : Claim7 := { stood := { row := stoneFlipsRow, standIns := [], harness := (true, "ee57bafaa547d4269e873396ff50610ad7c9ab83dccae86f5076ada5d7e033d5"), looks := false }, kinds := [], alts := [], laidByText := true, laidKinds := [.data, .pinned], laidTests := true, laidLooks := .later }
def StoneFlipsCardSaid : Prop := Claim7.holds Tryd.pinned (.plain (OpenSpec.ofChange stoneFlipsSpec)) stoneFlipsCard

/-- THE SECOND FORM's CARD OF 'bindlelaw17.StonePuts'. -/
def stonePutsUptoCard : Claim7 := { stood := { row := stonePutsUptoRow, standIns := [], harness := (true, "ee57bafaa547d4269e873396ff50610ad7c9ab83dccae86f5076ada5d7e033d5"), looks := false }, kinds := [], alts := [], laidByText := true, laidKinds := [.data, .pinned], laidTests := true, laidLooks := .later }
def StonePutsUptoCardSaid : Prop := Claim7.holds Tryd.pinned (.plain (OpenSpec.upto stonePutsSpec)) stonePutsUptoCard

/-- THE SECOND FORM's CARD OF 'bindlelaw17.StoneTakes'. -/
def stoneTakesUptoCard : Claim7 := { stood := { row := stoneTakesUptoRow, standIns := [], harness := (true, "ee57bafaa547d4269e873396ff50610ad7c9ab83dccae86f5076ada5d7e033d5"), looks := false }, kinds := [], alts := [], laidByText := true, laidKinds := [.data, .pinned], laidTests := true, laidLooks := .later }
def StoneTakesUptoCardSaid : Prop := Claim7.holds Tryd.pinned (.plain (OpenSpec.upto stoneTakesSpec)) stoneTakesUptoCard

/-- THE SECOND FORM's CARD OF 'bindlelaw17.StoneBack'. -/
def stoneBackUptoCard : Claim7 := { stood := { row := stoneBackUptoRow, standIns := [], harness := (true, "ee57bafaa547d4269e873396ff50610ad7c9ab83dccae86f5076ada5d7e033d5"), looks := false }, kinds := [], alts := [], laidByText := true, laidKinds := [.data, .data, .pinned], laidTests := true, laidLooks := .later }
def StoneBackUptoCardSaid : Prop := Claim7.holds Tryd.pinned (.plain (OpenSpec.upto stoneBackSpec)) stoneBackUptoCard

/-- THE SECOND FORM's CARD OF 'bindlelaw17.StoneFlips'. -/
def stoneFlipsUptoCard : Claim7 := { stood := { row := stoneFlipsUptoRow, standIns := [], harness := (true, "ee57bafaa547d4269e873396ff50610ad7c9ab83dccae86f5076ada5d7e033d5"), looks := false }, kinds := [], alts := [], laidByText := true, laidKinds := [.data, .pinned], laidTests := true, laidLooks := .later }
def StoneFlipsUptoCardSaid : Prop := Claim7.holds Tryd.pinned (.plain (OpenSpec.upto stoneFlipsSpec)) stoneFlipsUptoCard
end Rows
end Go.Proofs.YtakjpkhholgdbaaDoor
