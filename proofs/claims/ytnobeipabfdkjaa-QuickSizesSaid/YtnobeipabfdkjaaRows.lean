/-
  No cell of these rows narrows 'for every input' (looked for: loops, veiled, ifaces, maps, wideKeys, modest, calm, conditions, laid).
  DERIVED. THE GIVEN ROWS OF THIS SEAT. 5 by the template 'for every input the law returns true; each argument reads behind the call as it read before'; 0 by the template 'total and deterministic' (their statements: YtnobeipabfdkjaaTotals.lean).
  GIVEN WITH THE SEED: the statements are not yours to turn. If you find one false, say at which input.
  Laid BY PROGRAM, IN A SANDBOX (cutbox-rows.mjs): the forced cells as the released guide's own fill.sh prints them over the translation 9fced799ffca4422… (all of the seat's roots in one cut). By AI agents, Wed Nov 11 2026. No macro, syntax, notation, axiom, sorry.
-/
import Derived.Test.YtnobeipabfdkjaaChecked
import GoSem.Claim
import GoSem.ClaimJoined
import GoSem.ClaimMapViews
import Derived.JoinedTies
import Derived.KernelRfl
namespace Go.Proofs.Ytnobeipabfdkjaa
/- THE CELL 'sum', in the pinned program and in every row, IS THE sha256 OF THE DUMP (.gsa) THAT YtnobeipabfdkjaaProg.lean LOADS. Nothing in Lean hashes anything: it is a label: what it is worth is what the hold of that sum in a sandbox is worth. -/
noncomputable def Try.pinned : Pinned := { name := "ytnobeipabfdkjaa", sum := "9fced799ffca442246580d6089474b630e3725a227cb4ba610c5c7f6ce351277", checked := Try.checked }
namespace Rows
def none {H : Type} : Left H := { results := [], args := [] }

/-- 'bindlelaw34.QuickTurns': WHATEVER THE INPUT: true; the input reads as it did. -/
def quickTurnsSpec : ChangeSpec := { name := "quickTurns", fn := fun _ => fun
  | [d1, d2] => { results := [.lit (.bool true)], args := [d1, d2] }
  | _ => none }
def quickTurnsRow : OpenClaim := { program := "ytnobeipabfdkjaa", sum := "9fced799ffca442246580d6089474b630e3725a227cb4ba610c5c7f6ce351277", func := "bindle/bindlelaw34.QuickTurns", spec := "quickTurns", apart := false }
def QuickTurnsSaid : Prop := quickTurnsRow.holds Try.pinned (OpenSpec.ofChange quickTurnsSpec)

/-- ITS FALSE NEIGHBOUR: 'it returns false'. Refute it at one input. -/
def quickTurnsWrong : ChangeSpec := { name := "quickTurns", fn := fun _ => fun
  | [d1, d2] => { results := [.lit (.bool false)], args := [d1, d2] }
  | _ => none }
def QuickTurnsWrongFalsely : Prop := quickTurnsRow.holds Try.pinned (OpenSpec.ofChange quickTurnsWrong)

/-- 'bindlelaw34.QuickRows': WHATEVER THE INPUT: true; the input reads as it did. -/
def quickRowsSpec : ChangeSpec := { name := "quickRows", fn := fun _ => fun
  | [d1, d2, d3] => { results := [.lit (.bool true)], args := [d1, d2, d3] }
  | _ => none }
def quickRowsRow : OpenClaim := { program := "ytnobeipabfdkjaa", sum := "9fced799ffca442246580d6089474b630e3725a227cb4ba610c5c7f6ce351277", func := "bindle/bindlelaw34.QuickRows", spec := "quickRows", apart := false }
def QuickRowsSaid : Prop := quickRowsRow.holds Try.pinned (OpenSpec.ofChange quickRowsSpec)

/-- ITS FALSE NEIGHBOUR: 'it returns false'. Refute it at one input. -/
def quickRowsWrong : ChangeSpec := { name := "quickRows", fn := fun _ => fun
  | [d1, d2, d3] => { results := [.lit (.bool false)], args := [d1, d2, d3] }
  | _ => none }
def QuickRowsWrongFalsely : Prop := quickRowsRow.holds Try.pinned (OpenSpec.ofChange quickRowsWrong)

/-- 'bindlelaw34.QuickSizes': WHATEVER THE INPUT: true; the input reads as it did. -/
def quickSizesSpec : ChangeSpec := { name := "quickSizes", fn := fun _ => fun
  | [d1, d2] => { results := [.lit (.bool true)], args := [d1, d2] }
  | _ => none }
def quickSizesRow : OpenClaim := { program := "ytnobeipabfdkjaa", sum := "9fced799ffca442246580d6089474b630e3725a227cb4ba610c5c7f6ce351277", func := "bindle/bindlelaw34.QuickSizes", spec := "quickSizes", apart := false }
def QuickSizesSaid : Prop := quickSizesRow.holds Try.pinned (OpenSpec.ofChange quickSizesSpec)

/-- ITS FALSE NEIGHBOUR: 'it returns false'. Refute it at one input. -/
def quickSizesWrong : ChangeSpec := { name := "quickSizes", fn := fun _ => fun
  | [d1, d2] => { results := [.lit (.bool false)], args := [d1, d2] }
  | _ => none }
def QuickSizesWrongFalsely : Prop := quickSizesRow.holds Try.pinned (OpenSpec.ofChange quickSizesWrong)

/-- 'bindlelaw34.QuickTakes': WHATEVER THE INPUT: true; the input reads as it did. -/
def quickTakesSpec : ChangeSpec := { name := "quickTakes", fn := fun _ => fun
  | [d1, d2, d3] => { results := [.lit (.bool true)], args := [d1, d2, d3] }
  | _ => none }
def quickTakesRow : OpenClaim := { program := "ytnobeipabfdkjaa", sum := "9fced799ffca442246580d6089474b630e3725a227cb4ba610c5c7f6ce351277", func := "bindle/bindlelaw34.QuickTakes", spec := "quickTakes", apart := false }
def QuickTakesSaid : Prop := quickTakesRow.holds Try.pinned (OpenSpec.ofChange quickTakesSpec)

/-- ITS FALSE NEIGHBOUR: 'it returns false'. Refute it at one input. -/
def quickTakesWrong : ChangeSpec := { name := "quickTakes", fn := fun _ => fun
  | [d1, d2, d3] => { results := [.lit (.bool false)], args := [d1, d2, d3] }
  | _ => none }
def QuickTakesWrongFalsely : Prop := quickTakesRow.holds Try.pinned (OpenSpec.ofChange quickTakesWrong)

/-- 'bindlelaw34.QuickSame': WHATEVER THE INPUT: true; the input reads as it did. -/
def quickSameSpec : ChangeSpec := { name := "quickSame", fn := fun _ => fun
  | [d1, d2, d3] => { results := [.lit (.bool true)], args := [d1, d2, d3] }
  | _ => none }
def quickSameRow : OpenClaim := { program := "ytnobeipabfdkjaa", sum := "9fced799ffca442246580d6089474b630e3725a227cb4ba610c5c7f6ce351277", func := "bindle/bindlelaw34.QuickSame", spec := "quickSame", apart := false }
def QuickSameSaid : Prop := quickSameRow.holds Try.pinned (OpenSpec.ofChange quickSameSpec)

/-- ITS FALSE NEIGHBOUR: 'it returns false'. Refute it at one input. -/
def quickSameWrong : ChangeSpec := { name := "quickSame", fn := fun _ => fun
  | [d1, d2, d3] => { results := [.lit (.bool false)], args := [d1, d2, d3] }
  | _ => none }
def QuickSameWrongFalsely : Prop := quickSameRow.holds Try.pinned (OpenSpec.ofChange quickSameWrong)

/- THE SECOND FORM. 'bulk': how many values and letters a reading holds, each counted each time it is reached (what is shared counts as often as it is met; a slice's spare places count too). A statement '..UptoSaid' is the law's where the arguments, and the package variables that the reading takes, are together of bulk at most 1048576: NARROWER than '..Said'. Prove '..Said' where nothing that the law and all that it calls make is longer than what came in: it says more and counts as full. Else prove '..UptoSaid'. A law counts once. -/
mutual
def uptoBulk {H : Type} : DataW H → Nat
  | .lit (.string bytes) => bytes.length + 1
  | .lit _ => 1
  | .nil => 1
  | .ptr d => uptoBulk d + 1
  | .slice elems spare => uptoBulkAll elems + uptoBulkAll spare + 1
  | .agg parts => uptoBulkAll parts + 1
  | .iface _ d => uptoBulk d + 1
  | .map entries => uptoBulkEntries entries + 1
  | .held _ => 1
def uptoBulkAll {H : Type} : List (DataW H) → Nat
  | [] => 0
  | d :: r => uptoBulk d + uptoBulkAll r
def uptoBulkEntries {H : Type} : List (Lit × DataW H) → Nat
  | [] => 0
  | x :: r => uptoBulkEntry x + uptoBulkEntries r
def uptoBulkEntry {H : Type} : Lit × DataW H → Nat
  | (.string bytes, d) => bytes.length + uptoBulk d + 1
  | (_, d) => uptoBulk d + 1
 end
def uptoSmall : (H : Type) → List (DataW H) → Bool := fun _ ds => decide (uptoBulkAll ds ≤ 1048576)
def OpenSpec.upto (s : _root_.Go.ChangeSpec) : _root_.Go.OpenSpec := { _root_.Go.OpenSpec.ofChange s with cond := some uptoSmall }

/-- 'bindlelaw34.QuickTurns', WHERE WHAT IT READS IS OF BULK AT MOST 1048576: true; the input reads as it did. -/
def quickTurnsUptoRow : OpenClaim := { program := "ytnobeipabfdkjaa", sum := "9fced799ffca442246580d6089474b630e3725a227cb4ba610c5c7f6ce351277", func := "bindle/bindlelaw34.QuickTurns", spec := "quickTurns", apart := false, narrowed := true }
def QuickTurnsUptoSaid : Prop := quickTurnsUptoRow.holds Try.pinned (OpenSpec.upto quickTurnsSpec)

/-- 'bindlelaw34.QuickRows', WHERE WHAT IT READS IS OF BULK AT MOST 1048576: true; the input reads as it did. -/
def quickRowsUptoRow : OpenClaim := { program := "ytnobeipabfdkjaa", sum := "9fced799ffca442246580d6089474b630e3725a227cb4ba610c5c7f6ce351277", func := "bindle/bindlelaw34.QuickRows", spec := "quickRows", apart := false, narrowed := true }
def QuickRowsUptoSaid : Prop := quickRowsUptoRow.holds Try.pinned (OpenSpec.upto quickRowsSpec)

/-- 'bindlelaw34.QuickSizes', WHERE WHAT IT READS IS OF BULK AT MOST 1048576: true; the input reads as it did. -/
def quickSizesUptoRow : OpenClaim := { program := "ytnobeipabfdkjaa", sum := "9fced799ffca442246580d6089474b630e3725a227cb4ba610c5c7f6ce351277", func := "bindle/bindlelaw34.QuickSizes", spec := "quickSizes", apart := false, narrowed := true }
def QuickSizesUptoSaid : Prop := quickSizesUptoRow.holds Try.pinned (OpenSpec.upto quickSizesSpec)

/-- 'bindlelaw34.QuickTakes', WHERE WHAT IT READS IS OF BULK AT MOST 1048576: true; the input reads as it did. -/
def quickTakesUptoRow : OpenClaim := { program := "ytnobeipabfdkjaa", sum := "9fced799ffca442246580d6089474b630e3725a227cb4ba610c5c7f6ce351277", func := "bindle/bindlelaw34.QuickTakes", spec := "quickTakes", apart := false, narrowed := true }
def QuickTakesUptoSaid : Prop := quickTakesUptoRow.holds Try.pinned (OpenSpec.upto quickTakesSpec)

/-- 'bindlelaw34.QuickSame', WHERE WHAT IT READS IS OF BULK AT MOST 1048576: true; the input reads as it did. -/
def quickSameUptoRow : OpenClaim := { program := "ytnobeipabfdkjaa", sum := "9fced799ffca442246580d6089474b630e3725a227cb4ba610c5c7f6ce351277", func := "bindle/bindlelaw34.QuickSame", spec := "quickSame", apart := false, narrowed := true }
def QuickSameUptoSaid : Prop := quickSameUptoRow.holds Try.pinned (OpenSpec.upto quickSameSpec)

end Rows
end Go.Proofs.Ytnobeipabfdkjaa
