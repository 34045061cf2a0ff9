/-
  DERIVED. GIVEN WITH THE SEED: THE CARDS: each row of YtaknladkodibaaaGreatDoorRows.lean that lists a variable, with what it lists TIED to the program's text (the seventh form; the later family's looks); each row that meets fmt, with fmt's text TOLD by the authors' own Lean function (tested against real Go, not proved from fmt's source: count such statements apart). THE CARD IS WHAT COUNTS. Prove the row's statement (the work); the ties are given (YtaknladkodibaaaGreatDoorTie.lean); close each card by the builder's one call (the guide's Derived/Test/ToyasCard.lean, 'card_holds'). Laid BY PROGRAM, IN A SANDBOX (cutbox-door.mjs). By AI agents, Wed Nov 11 2026. No macro, syntax, notation, axiom, sorry.
-/
import Derived.Test.YtaknladkodibaaaGreatDoorRows
import GoSem.ClaimSeven
namespace Go.Proofs.YtaknladkodibaaaGreatDoor
namespace Rows

/-- THE TIED CARD OF 'bindlelaw22.RecordPuts'. -/
def recordPutsCard : Claim7 := { stood := { row := recordPutsRow, standIns := [], harness := (true, "af322369d5cf8413e59c5c3c7b9b159c0280f5c2ea54ad23cd6238baaaddd0eb"), looks := false }, kinds := [], alts := [], laidByText := true, laidKinds := [.data, .data, .pinned], laidTests := true, laidLooks := .later }
def RecordPutsCardSaid : Prop := Claim7.holds Tryz.pinned (.plain (OpenSpec.ofChange recordPutsSpec)) recordPutsCard

/-- THE TIED CARD OF 'bindlelaw22.RecordTakes'. -/
def recordTakesCard : Claim7 := { stood := { row := recordTakesRow, standIns := [], harness := (true, "af322369d5cf8413e59c5c3c7b9b159c0280f5c2ea54ad23cd6238baaaddd0eb"), looks := false }, kinds := [], alts := [], laidByText := true, laidKinds := [.data, .data, .pinned], laidTests := true, laidLooks := .later }
def RecordTakesCardSaid : Prop := Claim7.holds Tryz.pinned (.plain (OpenSpec.ofChange recordTakesSpec)) recordTakesCard

/-- THE TIED CARD OF 'bindlelaw22.RecordDatas'. -/
def recordDatasCard : Claim7 := { stood := { row := recordDatasRow, standIns := [], harness := (true, "af322369d5cf8413e59c5c3c7b9b159c0280f5c2ea54ad23cd6238baaaddd0eb"), looks := false }, kinds := [], alts := [], laidByText := true, laidKinds := [.data, .data, .pinned], laidTests := true, laidLooks := .later }
def RecordDatasCardSaid : Prop := Claim7.holds Tryz.pinned (.plain (OpenSpec.ofChange recordDatasSpec)) recordDatasCard

/-- THE TIED CARD OF 'bindlelaw22.RecordBack'. -/
def recordBackCard : Claim7 := { stood := { row := recordBackRow, standIns := [], harness := (true, "af322369d5cf8413e59c5c3c7b9b159c0280f5c2ea54ad23cd6238baaaddd0eb"), looks := false }, kinds := [], alts := [], laidByText := true, laidKinds := [.data, .data, .pinned], laidTests := true, laidLooks := .later }
def RecordBackCardSaid : Prop := Claim7.holds Tryz.pinned (.plain (OpenSpec.ofChange recordBackSpec)) recordBackCard

/-- THE TIED CARD OF 'bindlelaw22.RecordFlips'. -/
def recordFlipsCard : Claim7 := { stood := { row := recordFlipsRow, standIns := [], harness := (true, "af322369d5cf8413e59c5c3c7b9b159c0280f5c2ea54ad23cd6238baaaddd0eb"), looks := false }, kinds := [], alts := [], laidByText := true, laidKinds := [.data, .data, .pinned], laidTests := true, laidLooks := .later }
def RecordFlipsCardSaid : Prop := Claim7.holds Tryz.pinned (.plain (OpenSpec.ofChange recordFlipsSpec)) recordFlipsCard

/-- THE TIED CARD OF 'bindlelaw26.SpaceRecords'. -/
def spaceRecordsCard : Claim7 := { stood := { row := spaceRecordsRow, standIns := [], harness := (true, "af322369d5cf8413e59c5c3c7b9b159c0280f5c2ea54ad23cd6238baaaddd0eb"), looks := false }, kinds := [], alts := [], laidByText := true, laidKinds := [.data, .data, .pinned], laidTests := true, laidLooks := .later }
def SpaceRecordsCardSaid : Prop := Claim7.holds Tryz.pinned (.plain (OpenSpec.ofChange spaceRecordsSpec)) spaceRecordsCard

/-- THE SECOND FORM's CARD OF 'bindlelaw22.RecordPuts'. -/
def recordPutsUptoCard : Claim7 := { stood := { row := recordPutsUptoRow, standIns := [], harness := (true, "af322369d5cf8413e59c5c3c7b9b159c0280f5c2ea54ad23cd6238baaaddd0eb"), looks := false }, kinds := [], alts := [], laidByText := true, laidKinds := [.data, .data, .pinned], laidTests := true, laidLooks := .later }
def RecordPutsUptoCardSaid : Prop := Claim7.holds Tryz.pinned (.plain (OpenSpec.upto recordPutsSpec)) recordPutsUptoCard

/-- THE SECOND FORM's CARD OF 'bindlelaw22.RecordTakes'. -/
def recordTakesUptoCard : Claim7 := { stood := { row := recordTakesUptoRow, standIns := [], harness := (true, "af322369d5cf8413e59c5c3c7b9b159c0280f5c2ea54ad23cd6238baaaddd0eb"), looks := false }, kinds := [], alts := [], laidByText := true, laidKinds := [.data, .data, .pinned], laidTests := true, laidLooks := .later }
def RecordTakesUptoCardSaid : Prop := Claim7.holds Tryz.pinned (.plain (OpenSpec.upto recordTakesSpec)) recordTakesUptoCard

/-- THE SECOND FORM's CARD OF 'bindlelaw22.RecordDatas'. -/
def recordDatasUptoCard : Claim7 := { stood := { row := recordDatasUptoRow, standIns := [], harness := (true, "af322369d5cf8413e59c5c3c7b9b159c0280f5c2ea54ad23cd6238baaaddd0eb"), looks := false }, kinds := [], alts := [], laidByText := true, laidKinds := [.data, .data, .pinned], laidTests := true, laidLooks := .later }
def RecordDatasUptoCardSaid : Prop := Claim7.holds Tryz.pinned (.plain (OpenSpec.upto recordDatasSpec)) recordDatasUptoCard

/-- THE SECOND FORM's CARD OF 'bindlelaw22.RecordBack'. -/
def recordBackUptoCard : Claim7 := { stood := { row := recordBackUptoRow, standIns := [], harness := (true, "af322369d5cf8413e59c5c3c7b9b159c0280f5c2ea54ad23cd6238baaaddd0eb"), looks := false }, kinds := [], alts := [], laidByText := true, laidKinds := [.data, .data, .pinned], laidTests := true, laidLooks := .later }
def RecordBackUptoCardSaid : Prop := Claim7.holds Tryz.pinned (.plain (OpenSpec.upto recordBackSpec)) recordBackUptoCard

/-- THE SECOND FORM's CARD OF 'bindlelaw22.RecordFlips'. -/
def recordFlipsUptoCard : Claim7 := { stood := { row := recordFlipsUptoRow, standIns := [], harness := (true, "af322369d5cf8413e59c5c3c7b9b159c0280f5c2ea54ad23cd6238baaaddd0eb"), looks := false }, kinds := [], alts := [], laidByText := true, laidKinds := [.data, .data, .pinned], laidTests := true, laidLooks := .later }
def RecordFlipsUptoCardSaid : Prop := Claim7.holds Tryz.pinned (.plain (OpenSpec.upto recordFlipsSpec)) recordFlipsUptoCard

/-- THE SECOND FORM's CARD OF 'bindlelaw26.SpaceRecords'. -/
def spaceRecordsUptoCard : Claim7 := { stood := { row := spaceRecordsUptoRow, standIns := [], harness := (true, "af322369d5cf8413e59c5c3c7b9b159c0280f5c2ea54ad23cd6238baaaddd0eb"), looks := false }, kinds := [], alts := [], laidByText := true, laidKinds := [.data, .data, .pinned], laidTests := true, laidLooks := .later }
def SpaceRecordsUptoCardSaid : Prop := Claim7.holds Tryz.pinned (.plain (OpenSpec.upto spaceRecordsSpec)) spaceRecordsUptoCard
end Rows
end Go.Proofs.YtaknladkodibaaaGreatDoor
