/-
  DERIVED. GIVEN WITH THE SEED: THE CARDS: each row of YtjoifgeljjgflaaDoorRows.lean that lists a variable, with what it lists TIED to the program's text (the seventh form; the later family's looks); each row that meets fmt, with fmt's text TOLD by the authors' own Lean function (tested against real Go, not proved from fmt's source: count such statements apart). THE CARD IS WHAT COUNTS. Prove the row's statement (the work); the ties are given (YtjoifgeljjgflaaDoorTie.lean); close each card by the builder's one call (the guide's Derived/Test/ToyasCard.lean, 'card_holds'). Laid BY PROGRAM, IN A SANDBOX (cutbox-door.mjs). By AI agents, Wed Nov 11 2026. No macro, syntax, notation, axiom, sorry.
-/
import Derived.Test.YtjoifgeljjgflaaDoorRows
import GoSem.ClaimSeven
namespace Go.Proofs.YtjoifgeljjgflaaDoor
namespace Rows

/-- THE TIED CARD OF 'bindlelaw24.IndexPlays'. -/
def indexPlaysCard : Claim7 := { stood := { row := indexPlaysRow, standIns := [], harness := (true, "fba7a0842207fbc075e8de9025e191d7e6433cf4e1858c0329f46a69689f6a20"), looks := false }, kinds := [], alts := [], laidByText := true, laidKinds := [.data, .pinned], laidTests := true, laidLooks := .later }
def IndexPlaysCardSaid : Prop := Claim7.holds Tryd.pinned (.plain (OpenSpec.ofChange indexPlaysSpec)) indexPlaysCard

/-- THE TIED CARD OF 'bindlelaw24.IndexEach'. -/
def indexEachCard : Claim7 := { stood := { row := indexEachRow, standIns := [], harness := (true, "fba7a0842207fbc075e8de9025e191d7e6433cf4e1858c0329f46a69689f6a20"), looks := false }, kinds := [], alts := [], laidByText := true, laidKinds := [.data, .pinned], laidTests := true, laidLooks := .later }
def IndexEachCardSaid : Prop := Claim7.holds Tryd.pinned (.plain (OpenSpec.ofChange indexEachSpec)) indexEachCard

/-- THE TIED CARD OF 'bindlelaw24.IndexNone'. -/
def indexNoneCard : Claim7 := { stood := { row := indexNoneRow, standIns := [], harness := (true, "fba7a0842207fbc075e8de9025e191d7e6433cf4e1858c0329f46a69689f6a20"), looks := false }, kinds := [], alts := [], laidByText := true, laidKinds := [.data, .pinned], laidTests := true, laidLooks := .later }
def IndexNoneCardSaid : Prop := Claim7.holds Tryd.pinned (.plain (OpenSpec.ofChange indexNoneSpec)) indexNoneCard

/-- THE TIED CARD OF 'bindlelaw24.IndexKeeps'. -/
def indexKeepsCard : Claim7 := { stood := { row := indexKeepsRow, standIns := [], harness := (true, "fba7a0842207fbc075e8de9025e191d7e6433cf4e1858c0329f46a69689f6a20"), looks := false }, kinds := [], alts := [], laidByText := true, laidKinds := [.data, .pinned], laidTests := true, laidLooks := .later }
def IndexKeepsCardSaid : Prop := Claim7.holds Tryd.pinned (.plain (OpenSpec.ofChange indexKeepsSpec)) indexKeepsCard

/-- THE SECOND FORM's CARD OF 'bindlelaw24.IndexPlays'. -/
def indexPlaysUptoCard : Claim7 := { stood := { row := indexPlaysUptoRow, standIns := [], harness := (true, "fba7a0842207fbc075e8de9025e191d7e6433cf4e1858c0329f46a69689f6a20"), looks := false }, kinds := [], alts := [], laidByText := true, laidKinds := [.data, .pinned], laidTests := true, laidLooks := .later }
def IndexPlaysUptoCardSaid : Prop := Claim7.holds Tryd.pinned (.plain (OpenSpec.upto indexPlaysSpec)) indexPlaysUptoCard

/-- THE SECOND FORM's CARD OF 'bindlelaw24.IndexEach'. -/
def indexEachUptoCard : Claim7 := { stood := { row := indexEachUptoRow, standIns := [], harness := (true, "fba7a0842207fbc075e8de9025e191d7e6433cf4e1858c0329f46a69689f6a20"), looks := false }, kinds := [], alts := [], laidByText := true, laidKinds := [.data, .pinned], laidTests := true, laidLooks := .later }
def IndexEachUptoCardSaid : Prop := Claim7.holds Tryd.pinned (.plain (OpenSpec.upto indexEachSpec)) indexEachUptoCard

/-- THE SECOND FORM's CARD OF 'bindlelaw24.IndexNone'. -/
def indexNoneUptoCard : Claim7 := { stood := { row := indexNoneUptoRow, standIns := [], harness := (true, "fba7a0842207fbc075e8de9025e191d7e6433cf4e1858c0329f46a69689f6a20"), looks := false }, kinds := [], alts := [], laidByText := true, laidKinds := [.data, .pinned], laidTests := true, laidLooks := .later }
def IndexNoneUptoCardSaid : Prop := Claim7.holds Tryd.pinned (.plain (OpenSpec.upto indexNoneSpec)) indexNoneUptoCard

/-- THE SECOND FORM's CARD OF 'bindlelaw24.IndexKeeps'. -/
def indexKeepsUptoCard : Claim7 := { stood := { row := indexKeepsUptoRow, standIns := [], harness := (true, "fba7a0842207fbc075e8de9025e191d7e6433cf4e1858c0329f46a69689f6a20"), looks := false }, kinds := [], alts := [], laidByText := true, laidKinds := [.data, .pinned], laidTests := true, laidLooks := .later }
def IndexKeepsUptoCardSaid : Prop := Claim7.holds Tryd.pinned (.plain (OpenSpec.upto indexKeepsSpec)) indexKeepsUptoCard
end Rows
end Go.Proofs.YtjoifgeljjgflaaDoor
