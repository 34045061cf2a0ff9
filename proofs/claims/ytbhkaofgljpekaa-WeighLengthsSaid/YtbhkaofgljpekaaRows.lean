/-
  No cell of these rows narrows 'for every input' (looked for: loops, veiled, ifaces, maps, wideKeys, modest, calm, conditions, laid).
  DERIVED. THE GIVEN ROWS OF THIS SEAT. 5 by the template 'for every input the law returns true; each argument reads behind the call as it read before'; 0 by the template 'total and deterministic' (their statements: YtbhkaofgljpekaaTotals.lean).
  GIVEN WITH THE SEED: the statements are not yours to turn. If you find one false, say at which input.
  Laid BY PROGRAM, IN A SANDBOX (cutbox-rows.mjs): the forced cells as the released guide's own fill.sh prints them over the translation befe059820e15145… (all of the seat's roots in one cut). By AI agents, Wed Nov 11 2026. No macro, syntax, notation, axiom, sorry.
-/
import Derived.Test.YtbhkaofgljpekaaChecked
import GoSem.Claim
import GoSem.ClaimJoined
import GoSem.ClaimMapViews
import Derived.JoinedTies
import Derived.KernelRfl
namespace Go.Proofs.Ytbhkaofgljpekaa
/- THE CELL 'sum', in the pinned program and in every row, IS THE sha256 OF THE DUMP (.gsa) THAT YtbhkaofgljpekaaProg.lean LOADS. Nothing in Lean hashes anything: it is a label: what it is worth is what the hold of that sum in a sandbox is worth. -/
noncomputable def Try.pinned : Pinned := { name := "ytbhkaofgljpekaa", sum := "befe059820e151456fa55541a6a86d67480805f6de60282b6d6f3c993a4502fa", checked := Try.checked }
namespace Rows
def none {H : Type} : Left H := { results := [], args := [] }

/-- 'bindlelaw07.WeighLengths': WHATEVER THE INPUT: true; the input reads as it did. -/
def weighLengthsSpec : ChangeSpec := { name := "weighLengths", fn := fun _ => fun
  | [d] => { results := [.lit (.bool true)], args := [d] }
  | _ => none }
def weighLengthsRow : OpenClaim := { program := "ytbhkaofgljpekaa", sum := "befe059820e151456fa55541a6a86d67480805f6de60282b6d6f3c993a4502fa", func := "bindle/bindlelaw07.WeighLengths", spec := "weighLengths", unfollowed := true, recurses := true, apart := false }
def WeighLengthsSaid : Prop := weighLengthsRow.holds Try.pinned (OpenSpec.ofChange weighLengthsSpec)

/-- ITS FALSE NEIGHBOUR: 'it returns false'. Refute it at one input. -/
def weighLengthsWrong : ChangeSpec := { name := "weighLengths", fn := fun _ => fun
  | [d] => { results := [.lit (.bool false)], args := [d] }
  | _ => none }
def WeighLengthsWrongFalsely : Prop := weighLengthsRow.holds Try.pinned (OpenSpec.ofChange weighLengthsWrong)

/-- 'bindlelaw07.WeighCosts': WHATEVER THE INPUT: true; the input reads as it did. -/
def weighCostsSpec : ChangeSpec := { name := "weighCosts", fn := fun _ => fun
  | [d1, d2] => { results := [.lit (.bool true)], args := [d1, d2] }
  | _ => none }
def weighCostsRow : OpenClaim := { program := "ytbhkaofgljpekaa", sum := "befe059820e151456fa55541a6a86d67480805f6de60282b6d6f3c993a4502fa", func := "bindle/bindlelaw07.WeighCosts", spec := "weighCosts", unfollowed := true, recurses := true, apart := false }
def WeighCostsSaid : Prop := weighCostsRow.holds Try.pinned (OpenSpec.ofChange weighCostsSpec)

/-- ITS FALSE NEIGHBOUR: 'it returns false'. Refute it at one input. -/
def weighCostsWrong : ChangeSpec := { name := "weighCosts", fn := fun _ => fun
  | [d1, d2] => { results := [.lit (.bool false)], args := [d1, d2] }
  | _ => none }
def WeighCostsWrongFalsely : Prop := weighCostsRow.holds Try.pinned (OpenSpec.ofChange weighCostsWrong)

/-- 'bindlelaw07.WeighCounts': WHATEVER THE INPUT: true; the input reads as it did. -/
def weighCountsSpec : ChangeSpec := { name := "weighCounts", fn := fun _ => fun
  | [d1, d2] => { results := [.lit (.bool true)], args := [d1, d2] }
  | _ => none }
def weighCountsRow : OpenClaim := { program := "ytbhkaofgljpekaa", sum := "befe059820e151456fa55541a6a86d67480805f6de60282b6d6f3c993a4502fa", func := "bindle/bindlelaw07.WeighCounts", spec := "weighCounts", unfollowed := true, recurses := true, apart := false }
def WeighCountsSaid : Prop := weighCountsRow.holds Try.pinned (OpenSpec.ofChange weighCountsSpec)

/-- ITS FALSE NEIGHBOUR: 'it returns false'. Refute it at one input. -/
def weighCountsWrong : ChangeSpec := { name := "weighCounts", fn := fun _ => fun
  | [d1, d2] => { results := [.lit (.bool false)], args := [d1, d2] }
  | _ => none }
def WeighCountsWrongFalsely : Prop := weighCountsRow.holds Try.pinned (OpenSpec.ofChange weighCountsWrong)

/-- 'bindlelaw07.WeighFull': WHATEVER THE INPUT: true; the input reads as it did. -/
def weighFullSpec : ChangeSpec := { name := "weighFull", fn := fun _ => fun
  | [d] => { results := [.lit (.bool true)], args := [d] }
  | _ => none }
def weighFullRow : OpenClaim := { program := "ytbhkaofgljpekaa", sum := "befe059820e151456fa55541a6a86d67480805f6de60282b6d6f3c993a4502fa", func := "bindle/bindlelaw07.WeighFull", spec := "weighFull", unfollowed := true, recurses := true, apart := false }
def WeighFullSaid : Prop := weighFullRow.holds Try.pinned (OpenSpec.ofChange weighFullSpec)

/-- ITS FALSE NEIGHBOUR: 'it returns false'. Refute it at one input. -/
def weighFullWrong : ChangeSpec := { name := "weighFull", fn := fun _ => fun
  | [d] => { results := [.lit (.bool false)], args := [d] }
  | _ => none }
def WeighFullWrongFalsely : Prop := weighFullRow.holds Try.pinned (OpenSpec.ofChange weighFullWrong)

/-- 'bindlelaw07.WeighBest': WHATEVER THE INPUT: true; the input reads as it did. -/
def weighBestSpec : ChangeSpec := { name := "weighBest", fn := fun _ => fun
  | [d1, d2] => { results := [.lit (.bool true)], args := [d1, d2] }
  | _ => none }
def weighBestRow : OpenClaim := { program := "ytbhkaofgljpekaa", sum := "befe059820e151456fa55541a6a86d67480805f6de60282b6d6f3c993a4502fa", func := "bindle/bindlelaw07.WeighBest", spec := "weighBest", unfollowed := true, recurses := true, apart := false }
def WeighBestSaid : Prop := weighBestRow.holds Try.pinned (OpenSpec.ofChange weighBestSpec)

/-- ITS FALSE NEIGHBOUR: 'it returns false'. Refute it at one input. -/
def weighBestWrong : ChangeSpec := { name := "weighBest", fn := fun _ => fun
  | [d1, d2] => { results := [.lit (.bool false)], args := [d1, d2] }
  | _ => none }
def WeighBestWrongFalsely : Prop := weighBestRow.holds Try.pinned (OpenSpec.ofChange weighBestWrong)

/- THE SECOND FORM. 'bulk': how many values and letters a reading holds, each counted each time it is reached (what is shared counts as often as it is met; a slice's spare places count too). A statement '..UptoSaid' is the law's where the arguments, and the package variables that the reading takes, are together of bulk at most 1048576: NARROWER than '..Said'. Prove '..Said' where nothing that the law and all that it calls make is longer than what came in: it says more and counts as full. Else prove '..UptoSaid'. A law counts once. -/
mutual
def uptoBulk {H : Type} : DataW H → Nat
  | .lit (.string bytes) => bytes.length + 1
  | .lit _ => 1
  | .nil => 1
  | .ptr d => uptoBulk d + 1
  | .slice elems spare => uptoBulkAll elems + uptoBulkAll spare + 1
  | .agg parts => uptoBulkAll parts + 1
  | .iface _ d => uptoBulk d + 1
  | .map entries => uptoBulkEntries entries + 1
  | .held _ => 1
def uptoBulkAll {H : Type} : List (DataW H) → Nat
  | [] => 0
  | d :: r => uptoBulk d + uptoBulkAll r
def uptoBulkEntries {H : Type} : List (Lit × DataW H) → Nat
  | [] => 0
  | x :: r => uptoBulkEntry x + uptoBulkEntries r
def uptoBulkEntry {H : Type} : Lit × DataW H → Nat
  | (.string bytes, d) => bytes.length + uptoBulk d + 1
  | (_, d) => uptoBulk d + 1
 end
def uptoSmall : (H : Type) → List (DataW H) → Bool := fun _ ds => decide (uptoBulkAll ds ≤ 1048576)
def OpenSpec.upto (s : _root_.Go.ChangeSpec) : _root_.Go.OpenSpec := { _root_.Go.OpenSpec.ofChange s with cond := some uptoSmall }

/-- 'bindlelaw07.WeighLengths', WHERE WHAT IT READS IS OF BULK AT MOST 1048576: true; the input reads as it did. -/
def weighLengthsUptoRow : OpenClaim := { program := "ytbhkaofgljpekaa", sum := "befe059820e151456fa55541a6a86d67480805f6de60282b6d6f3c993a4502fa", func := "bindle/bindlelaw07.WeighLengths", spec := "weighLengths", unfollowed := true, recurses := true, apart := false, narrowed := true }
def WeighLengthsUptoSaid : Prop := weighLengthsUptoRow.holds Try.pinned (OpenSpec.upto weighLengthsSpec)

/-- 'bindlelaw07.WeighCosts', WHERE WHAT IT READS IS OF BULK AT MOST 1048576: true; the input reads as it did. -/
def weighCostsUptoRow : OpenClaim := { program := "ytbhkaofgljpekaa", sum := "befe059820e151456fa55541a6a86d67480805f6de60282b6d6f3c993a4502fa", func := "bindle/bindlelaw07.WeighCosts", spec := "weighCosts", unfollowed := true, recurses := true, apart := false, narrowed := true }
def WeighCostsUptoSaid : Prop := weighCostsUptoRow.holds Try.pinned (OpenSpec.upto weighCostsSpec)

/-- 'bindlelaw07.WeighCounts', WHERE WHAT IT READS IS OF BULK AT MOST 1048576: true; the input reads as it did. -/
def weighCountsUptoRow : OpenClaim := { program := "ytbhkaofgljpekaa", sum := "befe059820e151456fa55541a6a86d67480805f6de60282b6d6f3c993a4502fa", func := "bindle/bindlelaw07.WeighCounts", spec := "weighCounts", unfollowed := true, recurses := true, apart := false, narrowed := true }
def WeighCountsUptoSaid : Prop := weighCountsUptoRow.holds Try.pinned (OpenSpec.upto weighCountsSpec)

/-- 'bindlelaw07.WeighFull', WHERE WHAT IT READS IS OF BULK AT MOST 1048576: true; the input reads as it did. -/
def weighFullUptoRow : OpenClaim := { program := "ytbhkaofgljpekaa", sum := "befe059820e151456fa55541a6a86d67480805f6de60282b6d6f3c993a4502fa", func := "bindle/bindlelaw07.WeighFull", spec := "weighFull", unfollowed := true, recurses := true, apart := false, narrowed := true }
def WeighFullUptoSaid : Prop := weighFullUptoRow.holds Try.pinned (OpenSpec.upto weighFullSpec)

/-- 'bindlelaw07.WeighBest', WHERE WHAT IT READS IS OF BULK AT MOST 1048576: true; the input reads as it did. -/
def weighBestUptoRow : OpenClaim := { program := "ytbhkaofgljpekaa", sum := "befe059820e151456fa55541a6a86d67480805f6de60282b6d6f3c993a4502fa", func := "bindle/bindlelaw07.WeighBest", spec := "weighBest", unfollowed := true, recurses := true, apart := false, narrowed := true }
def WeighBestUptoSaid : Prop := weighBestUptoRow.holds Try.pinned (OpenSpec.upto weighBestSpec)

end Rows
end Go.Proofs.Ytbhkaofgljpekaa
