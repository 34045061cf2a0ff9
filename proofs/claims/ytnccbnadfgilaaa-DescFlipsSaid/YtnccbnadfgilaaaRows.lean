/-
  No cell of these rows narrows 'for every input' (looked for: loops, veiled, ifaces, maps, wideKeys, modest, calm, conditions, laid).
  DERIVED. THE GIVEN ROWS OF THIS SEAT. 4 by the template 'for every input the law returns true; each argument reads behind the call as it read before'; 0 by the template 'total and deterministic' (their statements: YtnccbnadfgilaaaTotals.lean).
  GIVEN WITH THE SEED: the statements are not yours to turn. If you find one false, say at which input.
  Laid BY PROGRAM, IN A SANDBOX (cutbox-rows.mjs): the forced cells as the released guide's own fill.sh prints them over the translation 0f75833af2e4f690… (all of the seat's roots in one cut). By AI agents, Wed Nov 11 2026. No macro, syntax, notation, axiom, sorry.
-/
import Derived.Test.YtnccbnadfgilaaaChecked
import GoSem.Claim
import GoSem.ClaimJoined
import GoSem.ClaimMapViews
import Derived.JoinedTies
import Derived.KernelRfl
namespace Go.Proofs.Ytnccbnadfgilaaa
/- THE CELL 'sum', in the pinned program and in every row, IS THE sha256 OF THE DUMP (.gsa) THAT YtnccbnadfgilaaaProg.lean LOADS. Nothing in Lean hashes anything: it is a label: what it is worth is what the hold of that sum in a sandbox is worth. -/
noncomputable def Try.pinned : Pinned := { name := "ytnccbnadfgilaaa", sum := "0f75833af2e4f6902e3f73252d3b025cf48c23a11825ca3c736c33c4cab160de", checked := Try.checked }
namespace Rows
def none {H : Type} : Left H := { results := [], args := [] }

/-- 'bindlelaw18.DescTakes': WHATEVER THE INPUT: true; the input reads as it did. -/
def descTakesSpec : ChangeSpec := { name := "descTakes", fn := fun _ => fun
  | [d1, d2] => { results := [.lit (.bool true)], args := [d1, d2] }
  | _ => none }
def descTakesRow : OpenClaim := { program := "ytnccbnadfgilaaa", sum := "0f75833af2e4f6902e3f73252d3b025cf48c23a11825ca3c736c33c4cab160de", func := "bindle/bindlelaw18.DescTakes", spec := "descTakes", unfollowed := true, recurses := true, apart := false }
def DescTakesSaid : Prop := descTakesRow.holds Try.pinned (OpenSpec.ofChange descTakesSpec)

/-- ITS FALSE NEIGHBOUR: 'it returns false'. Refute it at one input. -/
def descTakesWrong : ChangeSpec := { name := "descTakes", fn := fun _ => fun
  | [d1, d2] => { results := [.lit (.bool false)], args := [d1, d2] }
  | _ => none }
def DescTakesWrongFalsely : Prop := descTakesRow.holds Try.pinned (OpenSpec.ofChange descTakesWrong)

/-- 'bindlelaw18.DescFits': WHATEVER THE INPUT: true; the input reads as it did. -/
def descFitsSpec : ChangeSpec := { name := "descFits", fn := fun _ => fun
  | [d1, d2] => { results := [.lit (.bool true)], args := [d1, d2] }
  | _ => none }
def descFitsRow : OpenClaim := { program := "ytnccbnadfgilaaa", sum := "0f75833af2e4f6902e3f73252d3b025cf48c23a11825ca3c736c33c4cab160de", func := "bindle/bindlelaw18.DescFits", spec := "descFits", unfollowed := true, recurses := true, apart := false }
def DescFitsSaid : Prop := descFitsRow.holds Try.pinned (OpenSpec.ofChange descFitsSpec)

/-- ITS FALSE NEIGHBOUR: 'it returns false'. Refute it at one input. -/
def descFitsWrong : ChangeSpec := { name := "descFits", fn := fun _ => fun
  | [d1, d2] => { results := [.lit (.bool false)], args := [d1, d2] }
  | _ => none }
def DescFitsWrongFalsely : Prop := descFitsRow.holds Try.pinned (OpenSpec.ofChange descFitsWrong)

/-- 'bindlelaw18.DescBack': WHATEVER THE INPUT: true; the input reads as it did. -/
def descBackSpec : ChangeSpec := { name := "descBack", fn := fun _ => fun
  | [d1, d2] => { results := [.lit (.bool true)], args := [d1, d2] }
  | _ => none }
def descBackRow : OpenClaim := { program := "ytnccbnadfgilaaa", sum := "0f75833af2e4f6902e3f73252d3b025cf48c23a11825ca3c736c33c4cab160de", func := "bindle/bindlelaw18.DescBack", spec := "descBack", unfollowed := true, recurses := true, apart := false }
def DescBackSaid : Prop := descBackRow.holds Try.pinned (OpenSpec.ofChange descBackSpec)

/-- ITS FALSE NEIGHBOUR: 'it returns false'. Refute it at one input. -/
def descBackWrong : ChangeSpec := { name := "descBack", fn := fun _ => fun
  | [d1, d2] => { results := [.lit (.bool false)], args := [d1, d2] }
  | _ => none }
def DescBackWrongFalsely : Prop := descBackRow.holds Try.pinned (OpenSpec.ofChange descBackWrong)

/-- 'bindlelaw18.DescFlips': WHATEVER THE INPUT: true; the input reads as it did. -/
def descFlipsSpec : ChangeSpec := { name := "descFlips", fn := fun _ => fun
  | [d1, d2, d3] => { results := [.lit (.bool true)], args := [d1, d2, d3] }
  | _ => none }
def descFlipsRow : OpenClaim := { program := "ytnccbnadfgilaaa", sum := "0f75833af2e4f6902e3f73252d3b025cf48c23a11825ca3c736c33c4cab160de", func := "bindle/bindlelaw18.DescFlips", spec := "descFlips", unfollowed := true, recurses := true, apart := false }
def DescFlipsSaid : Prop := descFlipsRow.holds Try.pinned (OpenSpec.ofChange descFlipsSpec)

/-- ITS FALSE NEIGHBOUR: 'it returns false'. Refute it at one input. -/
def descFlipsWrong : ChangeSpec := { name := "descFlips", fn := fun _ => fun
  | [d1, d2, d3] => { results := [.lit (.bool false)], args := [d1, d2, d3] }
  | _ => none }
def DescFlipsWrongFalsely : Prop := descFlipsRow.holds Try.pinned (OpenSpec.ofChange descFlipsWrong)

/- THE SECOND FORM. 'bulk': how many values and letters a reading holds, each counted each time it is reached (what is shared counts as often as it is met; a slice's spare places count too). A statement '..UptoSaid' is the law's where the arguments, and the package variables that the reading takes, are together of bulk at most 1048576: NARROWER than '..Said'. Prove '..Said' where nothing that the law and all that it calls make is longer than what came in: it says more and counts as full. Else prove '..UptoSaid'. A law counts once. -/
mutual
def uptoBulk {H : Type} : DataW H → Nat
  | .lit (.string bytes) => bytes.length + 1
  | .lit _ => 1
  | .nil => 1
  | .ptr d => uptoBulk d + 1
  | .slice elems spare => uptoBulkAll elems + uptoBulkAll spare + 1
  | .agg parts => uptoBulkAll parts + 1
  | .iface _ d => uptoBulk d + 1
  | .map entries => uptoBulkEntries entries + 1
  | .held _ => 1
def uptoBulkAll {H : Type} : List (DataW H) → Nat
  | [] => 0
  | d :: r => uptoBulk d + uptoBulkAll r
def uptoBulkEntries {H : Type} : List (Lit × DataW H) → Nat
  | [] => 0
  | x :: r => uptoBulkEntry x + uptoBulkEntries r
def uptoBulkEntry {H : Type} : Lit × DataW H → Nat
  | (.string bytes, d) => bytes.length + uptoBulk d + 1
  | (_, d) => uptoBulk d + 1
 end
def uptoSmall : (H : Type) → List (DataW H) → Bool := fun _ ds => decide (uptoBulkAll ds ≤ 1048576)
def OpenSpec.upto (s : _root_.Go.ChangeSpec) : _root_.Go.OpenSpec := { _root_.Go.OpenSpec.ofChange s with cond := some uptoSmall }

/-- 'bindlelaw18.DescTakes', WHERE WHAT IT READS IS OF BULK AT MOST 1048576: true; the input reads as it did. -/
def descTakesUptoRow : OpenClaim := { program := "ytnccbnadfgilaaa", sum := "0f75833af2e4f6902e3f73252d3b025cf48c23a11825ca3c736c33c4cab160de", func := "bindle/bindlelaw18.DescTakes", spec := "descTakes", unfollowed := true, recurses := true, apart := false, narrowed := true }
def DescTakesUptoSaid : Prop := descTakesUptoRow.holds Try.pinned (OpenSpec.upto descTakesSpec)

/-- 'bindlelaw18.DescFits', WHERE WHAT IT READS IS OF BULK AT MOST 1048576: true; the input reads as it did. -/
def descFitsUptoRow : OpenClaim := { program := "ytnccbnadfgilaaa", sum := "0f75833af2e4f6902e3f73252d3b025cf48c23a11825ca3c736c33c4cab160de", func := "bindle/bindlelaw18.DescFits", spec := "descFits", unfollowed := true, recurses := true, apart := false, narrowed := true }
def DescFitsUptoSaid : Prop := descFitsUptoRow.holds Try.pinned (OpenSpec.upto descFitsSpec)

/-- 'bindlelaw18.DescBack', WHERE WHAT IT READS IS OF BULK AT MOST 1048576: true; the input reads as it did. -/
def descBackUptoRow : OpenClaim := { program := "ytnccbnadfgilaaa", sum := "0f75833af2e4f6902e3f73252d3b025cf48c23a11825ca3c736c33c4cab160de", func := "bindle/bindlelaw18.DescBack", spec := "descBack", unfollowed := true, recurses := true, apart := false, narrowed := true }
def DescBackUptoSaid : Prop := descBackUptoRow.holds Try.pinned (OpenSpec.upto descBackSpec)

/-- 'bindlelaw18.DescFlips', WHERE WHAT IT READS IS OF BULK AT MOST 1048576: true; the input reads as it did. -/
def descFlipsUptoRow : OpenClaim := { program := "ytnccbnadfgilaaa", sum := "0f75833af2e4f6902e3f73252d3b025cf48c23a11825ca3c736c33c4cab160de", func := "bindle/bindlelaw18.DescFlips", spec := "descFlips", unfollowed := true, recurses := true, apart := false, narrowed := true }
def DescFlipsUptoSaid : Prop := descFlipsUptoRow.holds Try.pinned (OpenSpec.upto descFlipsSpec)

end Rows
end Go.Proofs.Ytnccbnadfgilaaa
