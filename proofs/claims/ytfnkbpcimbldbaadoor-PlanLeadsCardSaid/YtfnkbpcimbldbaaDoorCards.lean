/-
  DERIVED. GIVEN WITH THE SEED: THE CARDS: each row of YtfnkbpcimbldbaaDoorRows.lean that lists a variable, with what it lists TIED to the program's text (the seventh form; the later family's looks); each row that meets fmt, with fmt's text TOLD by the authors' own Lean function (tested against real Go, not proved from fmt's source: count such statements apart). THE CARD IS WHAT COUNTS. Prove the row's statement (the work); the ties are given (YtfnkbpcimbldbaaDoorTie.lean); close each card by the builder's one call (the guide's Derived/Test/ToyasCard.lean, 'card_holds'). Laid BY PROGRAM, IN A SANDBOX (cutbox-door.mjs). By AI agents, Wed Nov 11 2026. No macro, syntax, notation, axiom, sorry.
-/
import Derived.Test.YtfnkbpcimbldbaaDoorRows
import GoSem.ClaimSeven
namespace Go.Proofs.YtfnkbpcimbldbaaDoor
namespace Rows

/-- THE TIED CARD OF 'bindlelaw38.PlanDiffs'. -/
def planDiffsCard : Claim7 := { stood := { row := planDiffsRow, standIns := [], harness := (true, "f57656074931d72d1107261563c498a7e59505cc20c1daca4f740c23cc1b1bca"), looks := false }, kinds := [], alts := [], laidByText := true, laidKinds := [.data, .pinned], laidTests := true, laidLooks := .later }
def PlanDiffsCardSaid : Prop := Claim7.holds Tryd.pinned (.plain (OpenSpec.ofChange planDiffsSpec)) planDiffsCard

/-- THE TIED CARD OF 'bindlelaw38.PlanApplies'. -/
def planAppliesCard : Claim7 := { stood := { row := planAppliesRow, standIns := [], harness := (true, "f57656074931d72d1107261563c498a7e59505cc20c1daca4f740c23cc1b1bca"), looks := false }, kinds := [], alts := [], laidByText := true, laidKinds := [.data, .pinned], laidTests := true, laidLooks := .later }
def PlanAppliesCardSaid : Prop := Claim7.holds Tryd.pinned (.plain (OpenSpec.ofChange planAppliesSpec)) planAppliesCard

/-- THE TIED CARD OF 'bindlelaw38.PlanLeads'. -/
def planLeadsCard : Claim7 := { stood := { row := planLeadsRow, standIns := [], harness := (true, "f57656074931d72d1107261563c498a7e59505cc20c1daca4f740c23cc1b1bca"), looks := false }, kinds := [], alts := [], laidByText := true, laidKinds := [.data, .pinned], laidTests := true, laidLooks := .later }
def PlanLeadsCardSaid : Prop := Claim7.holds Tryd.pinned (.plain (OpenSpec.ofChange planLeadsSpec)) planLeadsCard

/-- THE TIED CARD OF 'bindlelaw38.PlanJoins'. -/
def planJoinsCard : Claim7 := { stood := { row := planJoinsRow, standIns := [], harness := (true, "f57656074931d72d1107261563c498a7e59505cc20c1daca4f740c23cc1b1bca"), looks := false }, kinds := [], alts := [], laidByText := true, laidKinds := [.data, .pinned], laidTests := true, laidLooks := .later }
def PlanJoinsCardSaid : Prop := Claim7.holds Tryd.pinned (.plain (OpenSpec.ofChange planJoinsSpec)) planJoinsCard

/-- THE SECOND FORM's CARD OF 'bindlelaw38.PlanDiffs'. -/
def planDiffsUptoCard : Claim7 := { stood := { row := planDiffsUptoRow, standIns := [], harness := (true, "f57656074931d72d1107261563c498a7e59505cc20c1daca4f740c23cc1b1bca"), looks := false }, kinds := [], alts := [], laidByText := true, laidKinds := [.data, .pinned], laidTests := true, laidLooks := .later }
def PlanDiffsUptoCardSaid : Prop := Claim7.holds Tryd.pinned (.plain (OpenSpec.upto planDiffsSpec)) planDiffsUptoCard

/-- THE SECOND FORM's CARD OF 'bindlelaw38.PlanApplies'. -/
def planAppliesUptoCard : Claim7 := { stood := { row := planAppliesUptoRow, standIns := [], harness := (true, "f57656074931d72d1107261563c498a7e59505cc20c1daca4f740c23cc1b1bca"), looks := false }, kinds := [], alts := [], laidByText := true, laidKinds := [.data, .pinned], laidTests := true, laidLooks := .later }
def PlanAppliesUptoCardSaid : Prop := Claim7.holds Tryd.pinned (.plain (OpenSpec.upto planAppliesSpec)) planAppliesUptoCard

/-- THE SECOND FORM's CARD OF 'bindlelaw38.PlanLeads'. -/
def planLeadsUptoCard : Claim7 := { stood := { row := planLeadsUptoRow, standIns := [], harness := (true, "f57656074931d72d1107261563c498a7e59505cc20c1daca4f740c23cc1b1bca"), looks := false }, kinds := [], alts := [], laidByText := true, laidKinds := [.data, .pinned], laidTests := true, laidLooks := .later }
def PlanLeadsUptoCardSaid : Prop := Claim7.holds Tryd.pinned (.plain (OpenSpec.upto planLeadsSpec)) planLeadsUptoCard

/-- THE SECOND FORM's CARD OF 'bindlelaw38.PlanJoins'. -/
def planJoinsUptoCard : Claim7 := { stood := { row := planJoinsUptoRow, standIns := [], harness := (true, "f57656074931d72d1107261563c498a7e59505cc20c1daca4f740c23cc1b1bca"), looks := false }, kinds := [], alts := [], laidByText := true, laidKinds := [.data, .pinned], laidTests := true, laidLooks := .later }
def PlanJoinsUptoCardSaid : Prop := Claim7.holds Tryd.pinned (.plain (OpenSpec.upto planJoinsSpec)) planJoinsUptoCard
end Rows
end Go.Proofs.YtfnkbpcimbldbaaDoor
