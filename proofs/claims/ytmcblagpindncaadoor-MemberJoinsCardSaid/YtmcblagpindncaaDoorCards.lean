/-
  DERIVED. GIVEN WITH THE SEED: THE CARDS: each row of YtmcblagpindncaaDoorRows.lean that lists a variable, with what it lists TIED to the program's text (the seventh form; the later family's looks); each row that meets fmt, with fmt's text TOLD by the authors' own Lean function (tested against real Go, not proved from fmt's source: count such statements apart). THE CARD IS WHAT COUNTS. Prove the row's statement (the work); the ties are given (YtmcblagpindncaaDoorTie.lean); close each card by the builder's one call (the guide's Derived/Test/ToyasCard.lean, 'card_holds'). Laid BY PROGRAM, IN A SANDBOX (cutbox-door.mjs). By AI agents, Wed Nov 11 2026. No macro, syntax, notation, axiom, sorry.
-/
import Derived.Test.YtmcblagpindncaaDoorRows
import GoSem.ClaimSeven
namespace Go.Proofs.YtmcblagpindncaaDoor
namespace Rows

/-- THE TIED CARD OF 'bindlelaw15.MemberRights'. -/
def memberRightsCard : Claim7 := { stood := { row := memberRightsRow, standIns := [], harness := (true, "25f7b1f228a60a8dc9c1b3082c4724aedbb9cece8a97ed4d583ce215d84e1e3e"), looks := false }, kinds := [], alts := [], laidByText := true, laidKinds := [.data, .pinned], laidTests := true, laidLooks := .later }
def MemberRightsCardSaid : Prop := Claim7.holds Tryd.pinned (.plain (OpenSpec.ofChange memberRightsSpec)) memberRightsCard

/-- THE TIED CARD OF 'bindlelaw15.MemberFolders'. -/
def memberFoldersCard : Claim7 := { stood := { row := memberFoldersRow, standIns := [], harness := (true, "25f7b1f228a60a8dc9c1b3082c4724aedbb9cece8a97ed4d583ce215d84e1e3e"), looks := false }, kinds := [], alts := [], laidByText := true, laidKinds := [.data, .pinned], laidTests := true, laidLooks := .later }
def MemberFoldersCardSaid : Prop := Claim7.holds Tryd.pinned (.plain (OpenSpec.ofChange memberFoldersSpec)) memberFoldersCard

/-- THE TIED CARD OF 'bindlelaw15.MemberSorts'. -/
def memberSortsCard : Claim7 := { stood := { row := memberSortsRow, standIns := [], harness := (true, "25f7b1f228a60a8dc9c1b3082c4724aedbb9cece8a97ed4d583ce215d84e1e3e"), looks := false }, kinds := [], alts := [], laidByText := true, laidKinds := [.data, .pinned], laidTests := true, laidLooks := .later }
def MemberSortsCardSaid : Prop := Claim7.holds Tryd.pinned (.plain (OpenSpec.ofChange memberSortsSpec)) memberSortsCard

/-- THE TIED CARD OF 'bindlelaw15.MemberJoins'. -/
def memberJoinsCard : Claim7 := { stood := { row := memberJoinsRow, standIns := [], harness := (true, "25f7b1f228a60a8dc9c1b3082c4724aedbb9cece8a97ed4d583ce215d84e1e3e"), looks := false }, kinds := [], alts := [], laidByText := true, laidKinds := [.data, .pinned], laidTests := true, laidLooks := .later }
def MemberJoinsCardSaid : Prop := Claim7.holds Tryd.pinned (.plain (OpenSpec.ofChange memberJoinsSpec)) memberJoinsCard

/-- THE SECOND FORM's CARD OF 'bindlelaw15.MemberRights'. -/
def memberRightsUptoCard : Claim7 := { stood := { row := memberRightsUptoRow, standIns := [], harness := (true, "25f7b1f228a60a8dc9c1b3082c4724aedbb9cece8a97ed4d583ce215d84e1e3e"), looks := false }, kinds := [], alts := [], laidByText := true, laidKinds := [.data, .pinned], laidTests := true, laidLooks := .later }
def MemberRightsUptoCardSaid : Prop := Claim7.holds Tryd.pinned (.plain (OpenSpec.upto memberRightsSpec)) memberRightsUptoCard

/-- THE SECOND FORM's CARD OF 'bindlelaw15.MemberFolders'. -/
def memberFoldersUptoCard : Claim7 := { stood := { row := memberFoldersUptoRow, standIns := [], harness := (true, "25f7b1f228a60a8dc9c1b3082c4724aedbb9cece8a97ed4d583ce215d84e1e3e"), looks := false }, kinds := [], alts := [], laidByText := true, laidKinds := [.data, .pinned], laidTests := true, laidLooks := .later }
def MemberFoldersUptoCardSaid : Prop := Claim7.holds Tryd.pinned (.plain (OpenSpec.upto memberFoldersSpec)) memberFoldersUptoCard

/-- THE SECOND FORM's CARD OF 'bindlelaw15.MemberSorts'. -/
def memberSortsUptoCard : Claim7 := { stood := { row := memberSortsUptoRow, standIns := [], harness := (true, "25f7b1f228a60a8dc9c1b3082c4724aedbb9cece8a97ed4d583ce215d84e1e3e"), looks := false }, kinds := [], alts := [], laidByText := true, laidKinds := [.data, .pinned], laidTests := true, laidLooks := .later }
def MemberSortsUptoCardSaid : Prop := Claim7.holds Tryd.pinned (.plain (OpenSpec.upto memberSortsSpec)) memberSortsUptoCard

/-- THE SECOND FORM's CARD OF 'bindlelaw15.MemberJoins'. -/
def memberJoinsUptoCard : Claim7 := { stood := { row := memberJoinsUptoRow, standIns := [], harness := (true, "25f7b1f228a60a8dc9c1b3082c4724aedbb9cece8a97ed4d583ce215d84e1e3e"), looks := false }, kinds := [], alts := [], laidByText := true, laidKinds := [.data, .pinned], laidTests := true, laidLooks := .later }
def MemberJoinsUptoCardSaid : Prop := Claim7.holds Tryd.pinned (.plain (OpenSpec.upto memberJoinsSpec)) memberJoinsUptoCard
end Rows
end Go.Proofs.YtmcblagpindncaaDoor
