/-
  No cell of these rows narrows 'for every input' (looked for: loops, veiled, ifaces, maps, wideKeys, modest, calm, conditions, laid).
  DERIVED. THE GIVEN ROWS OF THIS SEAT. 4 by the template 'for every input the law returns true; each argument reads behind the call as it read before'; 0 by the template 'total and deterministic' (their statements: YtgokhpljmoojnaaTotals.lean).
  GIVEN WITH THE SEED: the statements are not yours to turn. If you find one false, say at which input.
  Laid BY PROGRAM, IN A SANDBOX (cutbox-rows.mjs): the forced cells as the released guide's own fill.sh prints them over the translation e29dd9f36f7bad4b… (all of the seat's roots in one cut). By AI agents, Wed Nov 11 2026. No macro, syntax, notation, axiom, sorry.
-/
import Derived.Test.YtgokhpljmoojnaaChecked
import GoSem.Claim
import GoSem.ClaimJoined
import GoSem.ClaimMapViews
import Derived.JoinedTies
import Derived.KernelRfl
namespace Go.Proofs.Ytgokhpljmoojnaa
/- THE CELL 'sum', in the pinned program and in every row, IS THE sha256 OF THE DUMP (.gsa) THAT YtgokhpljmoojnaaProg.lean LOADS. Nothing in Lean hashes anything: it is a label: what it is worth is what the hold of that sum in a sandbox is worth. -/
noncomputable def Try.pinned : Pinned := { name := "ytgokhpljmoojnaa", sum := "e29dd9f36f7bad4b2c527a55eed0f3c65ae6cec3b76b1dcbb59bcb05ec13668b", checked := Try.checked }
namespace Rows
def none {H : Type} : Left H := { results := [], args := [] }

/-- 'bindlelaw12.SymbolClasses': WHATEVER THE INPUT: true; the input reads as it did. -/
def symbolClassesSpec : ChangeSpec := { name := "symbolClasses", fn := fun _ => fun
  | [d1, d2] => { results := [.lit (.bool true)], args := [d1, d2] }
  | _ => none }
def symbolClassesRow : OpenClaim := { program := "ytgokhpljmoojnaa", sum := "e29dd9f36f7bad4b2c527a55eed0f3c65ae6cec3b76b1dcbb59bcb05ec13668b", func := "bindle/bindlelaw12.SymbolClasses", spec := "symbolClasses", apart := false }
def SymbolClassesSaid : Prop := symbolClassesRow.holds Try.pinned (OpenSpec.ofChange symbolClassesSpec)

/-- ITS FALSE NEIGHBOUR: 'it returns false'. Refute it at one input. -/
def symbolClassesWrong : ChangeSpec := { name := "symbolClasses", fn := fun _ => fun
  | [d1, d2] => { results := [.lit (.bool false)], args := [d1, d2] }
  | _ => none }
def SymbolClassesWrongFalsely : Prop := symbolClassesRow.holds Try.pinned (OpenSpec.ofChange symbolClassesWrong)

/-- 'bindlelaw12.SymbolSplits': WHATEVER THE INPUT: true; the input reads as it did. -/
def symbolSplitsSpec : ChangeSpec := { name := "symbolSplits", fn := fun _ => fun
  | [d1, d2] => { results := [.lit (.bool true)], args := [d1, d2] }
  | _ => none }
def symbolSplitsRow : OpenClaim := { program := "ytgokhpljmoojnaa", sum := "e29dd9f36f7bad4b2c527a55eed0f3c65ae6cec3b76b1dcbb59bcb05ec13668b", func := "bindle/bindlelaw12.SymbolSplits", spec := "symbolSplits", apart := false }
def SymbolSplitsSaid : Prop := symbolSplitsRow.holds Try.pinned (OpenSpec.ofChange symbolSplitsSpec)

/-- ITS FALSE NEIGHBOUR: 'it returns false'. Refute it at one input. -/
def symbolSplitsWrong : ChangeSpec := { name := "symbolSplits", fn := fun _ => fun
  | [d1, d2] => { results := [.lit (.bool false)], args := [d1, d2] }
  | _ => none }
def SymbolSplitsWrongFalsely : Prop := symbolSplitsRow.holds Try.pinned (OpenSpec.ofChange symbolSplitsWrong)

/-- 'bindlelaw12.SymbolBack': WHATEVER THE INPUT: true; the input reads as it did. -/
def symbolBackSpec : ChangeSpec := { name := "symbolBack", fn := fun _ => fun
  | [d1, d2] => { results := [.lit (.bool true)], args := [d1, d2] }
  | _ => none }
def symbolBackRow : OpenClaim := { program := "ytgokhpljmoojnaa", sum := "e29dd9f36f7bad4b2c527a55eed0f3c65ae6cec3b76b1dcbb59bcb05ec13668b", func := "bindle/bindlelaw12.SymbolBack", spec := "symbolBack", apart := false }
def SymbolBackSaid : Prop := symbolBackRow.holds Try.pinned (OpenSpec.ofChange symbolBackSpec)

/-- ITS FALSE NEIGHBOUR: 'it returns false'. Refute it at one input. -/
def symbolBackWrong : ChangeSpec := { name := "symbolBack", fn := fun _ => fun
  | [d1, d2] => { results := [.lit (.bool false)], args := [d1, d2] }
  | _ => none }
def SymbolBackWrongFalsely : Prop := symbolBackRow.holds Try.pinned (OpenSpec.ofChange symbolBackWrong)

/-- 'bindlelaw12.SymbolRises': WHATEVER THE INPUT: true; the input reads as it did. -/
def symbolRisesSpec : ChangeSpec := { name := "symbolRises", fn := fun _ => fun
  | [d1, d2] => { results := [.lit (.bool true)], args := [d1, d2] }
  | _ => none }
def symbolRisesRow : OpenClaim := { program := "ytgokhpljmoojnaa", sum := "e29dd9f36f7bad4b2c527a55eed0f3c65ae6cec3b76b1dcbb59bcb05ec13668b", func := "bindle/bindlelaw12.SymbolRises", spec := "symbolRises", apart := false }
def SymbolRisesSaid : Prop := symbolRisesRow.holds Try.pinned (OpenSpec.ofChange symbolRisesSpec)

/-- ITS FALSE NEIGHBOUR: 'it returns false'. Refute it at one input. -/
def symbolRisesWrong : ChangeSpec := { name := "symbolRises", fn := fun _ => fun
  | [d1, d2] => { results := [.lit (.bool false)], args := [d1, d2] }
  | _ => none }
def SymbolRisesWrongFalsely : Prop := symbolRisesRow.holds Try.pinned (OpenSpec.ofChange symbolRisesWrong)

/- THE SECOND FORM. 'bulk': how many values and letters a reading holds, each counted each time it is reached (what is shared counts as often as it is met; a slice's spare places count too). A statement '..UptoSaid' is the law's where the arguments, and the package variables that the reading takes, are together of bulk at most 1048576: NARROWER than '..Said'. Prove '..Said' where nothing that the law and all that it calls make is longer than what came in: it says more and counts as full. Else prove '..UptoSaid'. A law counts once. -/
mutual
def uptoBulk {H : Type} : DataW H → Nat
  | .lit (.string bytes) => bytes.length + 1
  | .lit _ => 1
  | .nil => 1
  | .ptr d => uptoBulk d + 1
  | .slice elems spare => uptoBulkAll elems + uptoBulkAll spare + 1
  | .agg parts => uptoBulkAll parts + 1
  | .iface _ d => uptoBulk d + 1
  | .map entries => uptoBulkEntries entries + 1
  | .held _ => 1
def uptoBulkAll {H : Type} : List (DataW H) → Nat
  | [] => 0
  | d :: r => uptoBulk d + uptoBulkAll r
def uptoBulkEntries {H : Type} : List (Lit × DataW H) → Nat
  | [] => 0
  | x :: r => uptoBulkEntry x + uptoBulkEntries r
def uptoBulkEntry {H : Type} : Lit × DataW H → Nat
  | (.string bytes, d) => bytes.length + uptoBulk d + 1
  | (_, d) => uptoBulk d + 1
 end
def uptoSmall : (H : Type) → List (DataW H) → Bool := fun _ ds => decide (uptoBulkAll ds ≤ 1048576)
def OpenSpec.upto (s : _root_.Go.ChangeSpec) : _root_.Go.OpenSpec := { _root_.Go.OpenSpec.ofChange s with cond := some uptoSmall }

/-- 'bindlelaw12.SymbolClasses', WHERE WHAT IT READS IS OF BULK AT MOST 1048576: true; the input reads as it did. -/
def symbolClassesUptoRow : OpenClaim := { program := "ytgokhpljmoojnaa", sum := "e29dd9f36f7bad4b2c527a55eed0f3c65ae6cec3b76b1dcbb59bcb05ec13668b", func := "bindle/bindlelaw12.SymbolClasses", spec := "symbolClasses", apart := false, narrowed := true }
def SymbolClassesUptoSaid : Prop := symbolClassesUptoRow.holds Try.pinned (OpenSpec.upto symbolClassesSpec)

/-- 'bindlelaw12.SymbolSplits', WHERE WHAT IT READS IS OF BULK AT MOST 1048576: true; the input reads as it did. -/
def symbolSplitsUptoRow : OpenClaim := { program := "ytgokhpljmoojnaa", sum := "e29dd9f36f7bad4b2c527a55eed0f3c65ae6cec3b76b1dcbb59bcb05ec13668b", func := "bindle/bindlelaw12.SymbolSplits", spec := "symbolSplits", apart := false, narrowed := true }
def SymbolSplitsUptoSaid : Prop := symbolSplitsUptoRow.holds Try.pinned (OpenSpec.upto symbolSplitsSpec)

/-- 'bindlelaw12.SymbolBack', WHERE WHAT IT READS IS OF BULK AT MOST 1048576: true; the input reads as it did. -/
def symbolBackUptoRow : OpenClaim := { program := "ytgokhpljmoojnaa", sum := "e29dd9f36f7bad4b2c527a55eed0f3c65ae6cec3b76b1dcbb59bcb05ec13668b", func := "bindle/bindlelaw12.SymbolBack", spec := "symbolBack", apart := false, narrowed := true }
def SymbolBackUptoSaid : Prop := symbolBackUptoRow.holds Try.pinned (OpenSpec.upto symbolBackSpec)

/-- 'bindlelaw12.SymbolRises', WHERE WHAT IT READS IS OF BULK AT MOST 1048576: true; the input reads as it did. -/
def symbolRisesUptoRow : OpenClaim := { program := "ytgokhpljmoojnaa", sum := "e29dd9f36f7bad4b2c527a55eed0f3c65ae6cec3b76b1dcbb59bcb05ec13668b", func := "bindle/bindlelaw12.SymbolRises", spec := "symbolRises", apart := false, narrowed := true }
def SymbolRisesUptoSaid : Prop := symbolRisesUptoRow.holds Try.pinned (OpenSpec.upto symbolRisesSpec)

end Rows
end Go.Proofs.Ytgokhpljmoojnaa
