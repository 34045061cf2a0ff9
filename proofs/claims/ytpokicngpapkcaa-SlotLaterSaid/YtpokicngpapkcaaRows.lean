/-
  No cell of these rows narrows 'for every input' (looked for: loops, veiled, ifaces, maps, wideKeys, modest, calm, conditions, laid).
  DERIVED. THE GIVEN ROWS OF THIS SEAT. 4 by the template 'for every input the law returns true; each argument reads behind the call as it read before'; 0 by the template 'total and deterministic' (their statements: YtpokicngpapkcaaTotals.lean).
  GIVEN WITH THE SEED: the statements are not yours to turn. If you find one false, say at which input.
  Laid BY PROGRAM, IN A SANDBOX (cutbox-rows.mjs): the forced cells as the released guide's own fill.sh prints them over the translation 253c907754d8ff21… (all of the seat's roots in one cut). By AI agents, Wed Nov 11 2026. No macro, syntax, notation, axiom, sorry.
-/
import Derived.Test.YtpokicngpapkcaaChecked
import GoSem.Claim
import GoSem.ClaimJoined
import GoSem.ClaimMapViews
import Derived.JoinedTies
import Derived.KernelRfl
namespace Go.Proofs.Ytpokicngpapkcaa
/- THE CELL 'sum', in the pinned program and in every row, IS THE sha256 OF THE DUMP (.gsa) THAT YtpokicngpapkcaaProg.lean LOADS. Nothing in Lean hashes anything: it is a label: what it is worth is what the hold of that sum in a sandbox is worth. -/
noncomputable def Try.pinned : Pinned := { name := "ytpokicngpapkcaa", sum := "253c907754d8ff219ddbf8e4ef597355088fbea56bc019a6db4ba389a00b8d6d", checked := Try.checked }
namespace Rows
def none {H : Type} : Left H := { results := [], args := [] }

/-- 'bindlelaw21.SlotPuts': WHATEVER THE INPUT: true; the input reads as it did. -/
def slotPutsSpec : ChangeSpec := { name := "slotPuts", fn := fun _ => fun
  | [d] => { results := [.lit (.bool true)], args := [d] }
  | _ => none }
def slotPutsRow : OpenClaim := { program := "ytpokicngpapkcaa", sum := "253c907754d8ff219ddbf8e4ef597355088fbea56bc019a6db4ba389a00b8d6d", func := "bindle/bindlelaw21.SlotPuts", spec := "slotPuts", apart := false }
def SlotPutsSaid : Prop := slotPutsRow.holds Try.pinned (OpenSpec.ofChange slotPutsSpec)

/-- ITS FALSE NEIGHBOUR: 'it returns false'. Refute it at one input. -/
def slotPutsWrong : ChangeSpec := { name := "slotPuts", fn := fun _ => fun
  | [d] => { results := [.lit (.bool false)], args := [d] }
  | _ => none }
def SlotPutsWrongFalsely : Prop := slotPutsRow.holds Try.pinned (OpenSpec.ofChange slotPutsWrong)

/-- 'bindlelaw21.SlotNexts': WHATEVER THE INPUT: true; the input reads as it did. -/
def slotNextsSpec : ChangeSpec := { name := "slotNexts", fn := fun _ => fun
  | [d1, d2, d3] => { results := [.lit (.bool true)], args := [d1, d2, d3] }
  | _ => none }
def slotNextsRow : OpenClaim := { program := "ytpokicngpapkcaa", sum := "253c907754d8ff219ddbf8e4ef597355088fbea56bc019a6db4ba389a00b8d6d", func := "bindle/bindlelaw21.SlotNexts", spec := "slotNexts", apart := false }
def SlotNextsSaid : Prop := slotNextsRow.holds Try.pinned (OpenSpec.ofChange slotNextsSpec)

/-- ITS FALSE NEIGHBOUR: 'it returns false'. Refute it at one input. -/
def slotNextsWrong : ChangeSpec := { name := "slotNexts", fn := fun _ => fun
  | [d1, d2, d3] => { results := [.lit (.bool false)], args := [d1, d2, d3] }
  | _ => none }
def SlotNextsWrongFalsely : Prop := slotNextsRow.holds Try.pinned (OpenSpec.ofChange slotNextsWrong)

/-- 'bindlelaw21.SlotLater': WHATEVER THE INPUT: true; the input reads as it did. -/
def slotLaterSpec : ChangeSpec := { name := "slotLater", fn := fun _ => fun
  | [d] => { results := [.lit (.bool true)], args := [d] }
  | _ => none }
def slotLaterRow : OpenClaim := { program := "ytpokicngpapkcaa", sum := "253c907754d8ff219ddbf8e4ef597355088fbea56bc019a6db4ba389a00b8d6d", func := "bindle/bindlelaw21.SlotLater", spec := "slotLater", apart := false }
def SlotLaterSaid : Prop := slotLaterRow.holds Try.pinned (OpenSpec.ofChange slotLaterSpec)

/-- ITS FALSE NEIGHBOUR: 'it returns false'. Refute it at one input. -/
def slotLaterWrong : ChangeSpec := { name := "slotLater", fn := fun _ => fun
  | [d] => { results := [.lit (.bool false)], args := [d] }
  | _ => none }
def SlotLaterWrongFalsely : Prop := slotLaterRow.holds Try.pinned (OpenSpec.ofChange slotLaterWrong)

/-- 'bindlelaw21.SlotSpoilt': WHATEVER THE INPUT: true; the input reads as it did. -/
def slotSpoiltSpec : ChangeSpec := { name := "slotSpoilt", fn := fun _ => fun
  | [d1, d2, d3] => { results := [.lit (.bool true)], args := [d1, d2, d3] }
  | _ => none }
def slotSpoiltRow : OpenClaim := { program := "ytpokicngpapkcaa", sum := "253c907754d8ff219ddbf8e4ef597355088fbea56bc019a6db4ba389a00b8d6d", func := "bindle/bindlelaw21.SlotSpoilt", spec := "slotSpoilt", apart := false }
def SlotSpoiltSaid : Prop := slotSpoiltRow.holds Try.pinned (OpenSpec.ofChange slotSpoiltSpec)

/-- ITS FALSE NEIGHBOUR: 'it returns false'. Refute it at one input. -/
def slotSpoiltWrong : ChangeSpec := { name := "slotSpoilt", fn := fun _ => fun
  | [d1, d2, d3] => { results := [.lit (.bool false)], args := [d1, d2, d3] }
  | _ => none }
def SlotSpoiltWrongFalsely : Prop := slotSpoiltRow.holds Try.pinned (OpenSpec.ofChange slotSpoiltWrong)

/- THE SECOND FORM. 'bulk': how many values and letters a reading holds, each counted each time it is reached (what is shared counts as often as it is met; a slice's spare places count too). A statement '..UptoSaid' is the law's where the arguments, and the package variables that the reading takes, are together of bulk at most 1048576: NARROWER than '..Said'. Prove '..Said' where nothing that the law and all that it calls make is longer than what came in: it says more and counts as full. Else prove '..UptoSaid'. A law counts once. -/
mutual
def uptoBulk {H : Type} : DataW H → Nat
  | .lit (.string bytes) => bytes.length + 1
  | .lit _ => 1
  | .nil => 1
  | .ptr d => uptoBulk d + 1
  | .slice elems spare => uptoBulkAll elems + uptoBulkAll spare + 1
  | .agg parts => uptoBulkAll parts + 1
  | .iface _ d => uptoBulk d + 1
  | .map entries => uptoBulkEntries entries + 1
  | .held _ => 1
def uptoBulkAll {H : Type} : List (DataW H) → Nat
  | [] => 0
  | d :: r => uptoBulk d + uptoBulkAll r
def uptoBulkEntries {H : Type} : List (Lit × DataW H) → Nat
  | [] => 0
  | x :: r => uptoBulkEntry x + uptoBulkEntries r
def uptoBulkEntry {H : Type} : Lit × DataW H → Nat
  | (.string bytes, d) => bytes.length + uptoBulk d + 1
  | (_, d) => uptoBulk d + 1
 end
def uptoSmall : (H : Type) → List (DataW H) → Bool := fun _ ds => decide (uptoBulkAll ds ≤ 1048576)
def OpenSpec.upto (s : _root_.Go.ChangeSpec) : _root_.Go.OpenSpec := { _root_.Go.OpenSpec.ofChange s with cond := some uptoSmall }

/-- 'bindlelaw21.SlotPuts', WHERE WHAT IT READS IS OF BULK AT MOST 1048576: true; the input reads as it did. -/
def slotPutsUptoRow : OpenClaim := { program := "ytpokicngpapkcaa", sum := "253c907754d8ff219ddbf8e4ef597355088fbea56bc019a6db4ba389a00b8d6d", func := "bindle/bindlelaw21.SlotPuts", spec := "slotPuts", apart := false, narrowed := true }
def SlotPutsUptoSaid : Prop := slotPutsUptoRow.holds Try.pinned (OpenSpec.upto slotPutsSpec)

/-- 'bindlelaw21.SlotNexts', WHERE WHAT IT READS IS OF BULK AT MOST 1048576: true; the input reads as it did. -/
def slotNextsUptoRow : OpenClaim := { program := "ytpokicngpapkcaa", sum := "253c907754d8ff219ddbf8e4ef597355088fbea56bc019a6db4ba389a00b8d6d", func := "bindle/bindlelaw21.SlotNexts", spec := "slotNexts", apart := false, narrowed := true }
def SlotNextsUptoSaid : Prop := slotNextsUptoRow.holds Try.pinned (OpenSpec.upto slotNextsSpec)

/-- 'bindlelaw21.SlotLater', WHERE WHAT IT READS IS OF BULK AT MOST 1048576: true; the input reads as it did. -/
def slotLaterUptoRow : OpenClaim := { program := "ytpokicngpapkcaa", sum := "253c907754d8ff219ddbf8e4ef597355088fbea56bc019a6db4ba389a00b8d6d", func := "bindle/bindlelaw21.SlotLater", spec := "slotLater", apart := false, narrowed := true }
def SlotLaterUptoSaid : Prop := slotLaterUptoRow.holds Try.pinned (OpenSpec.upto slotLaterSpec)

/-- 'bindlelaw21.SlotSpoilt', WHERE WHAT IT READS IS OF BULK AT MOST 1048576: true; the input reads as it did. -/
def slotSpoiltUptoRow : OpenClaim := { program := "ytpokicngpapkcaa", sum := "253c907754d8ff219ddbf8e4ef597355088fbea56bc019a6db4ba389a00b8d6d", func := "bindle/bindlelaw21.SlotSpoilt", spec := "slotSpoilt", apart := false, narrowed := true }
def SlotSpoiltUptoSaid : Prop := slotSpoiltUptoRow.holds Try.pinned (OpenSpec.upto slotSpoiltSpec)

end Rows
end Go.Proofs.Ytpokicngpapkcaa
