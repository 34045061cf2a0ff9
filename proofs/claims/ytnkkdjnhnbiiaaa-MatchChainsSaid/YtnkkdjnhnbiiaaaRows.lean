/-
  No cell of these rows narrows 'for every input' (looked for: loops, veiled, ifaces, maps, wideKeys, modest, calm, conditions, laid).
  DERIVED. THE GIVEN ROWS OF THIS SEAT. 4 by the template 'for every input the law returns true; each argument reads behind the call as it read before'; 0 by the template 'total and deterministic' (their statements: YtnkkdjnhnbiiaaaTotals.lean).
  GIVEN WITH THE SEED: the statements are not yours to turn. If you find one false, say at which input.
  Laid BY PROGRAM, IN A SANDBOX (cutbox-rows.mjs): the forced cells as the released guide's own fill.sh prints them over the translation efa09a08c05e7622… (all of the seat's roots in one cut). By AI agents, Wed Nov 11 2026. No macro, syntax, notation, axiom, sorry.
-/
import Derived.Test.YtnkkdjnhnbiiaaaChecked
import GoSem.Claim
import GoSem.ClaimJoined
import GoSem.ClaimMapViews
import Derived.JoinedTies
import Derived.KernelRfl
namespace Go.Proofs.Ytnkkdjnhnbiiaaa
/- THE CELL 'sum', in the pinned program and in every row, IS THE sha256 OF THE DUMP (.gsa) THAT YtnkkdjnhnbiiaaaProg.lean LOADS. Nothing in Lean hashes anything: it is a label: what it is worth is what the hold of that sum in a sandbox is worth. -/
noncomputable def Try.pinned : Pinned := { name := "ytnkkdjnhnbiiaaa", sum := "efa09a08c05e7622c693a4df1f0a53ef1cf93d05fda4a8b86257d9d6dbb34f55", checked := Try.checked }
namespace Rows
def none {H : Type} : Left H := { results := [], args := [] }

/-- 'bindlelaw10.MatchLens': WHATEVER THE INPUT: true; the input reads as it did. -/
def matchLensSpec : ChangeSpec := { name := "matchLens", fn := fun _ => fun
  | [d1, d2, d3] => { results := [.lit (.bool true)], args := [d1, d2, d3] }
  | _ => none }
def matchLensRow : OpenClaim := { program := "ytnkkdjnhnbiiaaa", sum := "efa09a08c05e7622c693a4df1f0a53ef1cf93d05fda4a8b86257d9d6dbb34f55", func := "bindle/bindlelaw10.MatchLens", spec := "matchLens", unfollowed := true, recurses := true, plainKeys := false, apart := false }
def MatchLensSaid : Prop := matchLensRow.holds Try.pinned (OpenSpec.ofChange matchLensSpec)

/-- ITS FALSE NEIGHBOUR: 'it returns false'. Refute it at one input. -/
def matchLensWrong : ChangeSpec := { name := "matchLens", fn := fun _ => fun
  | [d1, d2, d3] => { results := [.lit (.bool false)], args := [d1, d2, d3] }
  | _ => none }
def MatchLensWrongFalsely : Prop := matchLensRow.holds Try.pinned (OpenSpec.ofChange matchLensWrong)

/-- 'bindlelaw10.MatchBests': WHATEVER THE INPUT: true; the input reads as it did. -/
def matchBestsSpec : ChangeSpec := { name := "matchBests", fn := fun _ => fun
  | [d1, d2, d3] => { results := [.lit (.bool true)], args := [d1, d2, d3] }
  | _ => none }
def matchBestsRow : OpenClaim := { program := "ytnkkdjnhnbiiaaa", sum := "efa09a08c05e7622c693a4df1f0a53ef1cf93d05fda4a8b86257d9d6dbb34f55", func := "bindle/bindlelaw10.MatchBests", spec := "matchBests", unfollowed := true, recurses := true, plainKeys := false, apart := false }
def MatchBestsSaid : Prop := matchBestsRow.holds Try.pinned (OpenSpec.ofChange matchBestsSpec)

/-- ITS FALSE NEIGHBOUR: 'it returns false'. Refute it at one input. -/
def matchBestsWrong : ChangeSpec := { name := "matchBests", fn := fun _ => fun
  | [d1, d2, d3] => { results := [.lit (.bool false)], args := [d1, d2, d3] }
  | _ => none }
def MatchBestsWrongFalsely : Prop := matchBestsRow.holds Try.pinned (OpenSpec.ofChange matchBestsWrong)

/-- 'bindlelaw10.MatchChains': WHATEVER THE INPUT: true; the input reads as it did. -/
def matchChainsSpec : ChangeSpec := { name := "matchChains", fn := fun _ => fun
  | [d1, d2] => { results := [.lit (.bool true)], args := [d1, d2] }
  | _ => none }
def matchChainsRow : OpenClaim := { program := "ytnkkdjnhnbiiaaa", sum := "efa09a08c05e7622c693a4df1f0a53ef1cf93d05fda4a8b86257d9d6dbb34f55", func := "bindle/bindlelaw10.MatchChains", spec := "matchChains", unfollowed := true, recurses := true, plainKeys := false, apart := false }
def MatchChainsSaid : Prop := matchChainsRow.holds Try.pinned (OpenSpec.ofChange matchChainsSpec)

/-- ITS FALSE NEIGHBOUR: 'it returns false'. Refute it at one input. -/
def matchChainsWrong : ChangeSpec := { name := "matchChains", fn := fun _ => fun
  | [d1, d2] => { results := [.lit (.bool false)], args := [d1, d2] }
  | _ => none }
def MatchChainsWrongFalsely : Prop := matchChainsRow.holds Try.pinned (OpenSpec.ofChange matchChainsWrong)

/-- 'bindlelaw10.MatchThere': WHATEVER THE INPUT: true; the input reads as it did. -/
def matchThereSpec : ChangeSpec := { name := "matchThere", fn := fun _ => fun
  | [d1, d2, d3] => { results := [.lit (.bool true)], args := [d1, d2, d3] }
  | _ => none }
def matchThereRow : OpenClaim := { program := "ytnkkdjnhnbiiaaa", sum := "efa09a08c05e7622c693a4df1f0a53ef1cf93d05fda4a8b86257d9d6dbb34f55", func := "bindle/bindlelaw10.MatchThere", spec := "matchThere", unfollowed := true, recurses := true, plainKeys := false, apart := false }
def MatchThereSaid : Prop := matchThereRow.holds Try.pinned (OpenSpec.ofChange matchThereSpec)

/-- ITS FALSE NEIGHBOUR: 'it returns false'. Refute it at one input. -/
def matchThereWrong : ChangeSpec := { name := "matchThere", fn := fun _ => fun
  | [d1, d2, d3] => { results := [.lit (.bool false)], args := [d1, d2, d3] }
  | _ => none }
def MatchThereWrongFalsely : Prop := matchThereRow.holds Try.pinned (OpenSpec.ofChange matchThereWrong)

/- THE SECOND FORM. 'bulk': how many values and letters a reading holds, each counted each time it is reached (what is shared counts as often as it is met; a slice's spare places count too). A statement '..UptoSaid' is the law's where the arguments, and the package variables that the reading takes, are together of bulk at most 1048576: NARROWER than '..Said'. Prove '..Said' where nothing that the law and all that it calls make is longer than what came in: it says more and counts as full. Else prove '..UptoSaid'. A law counts once. -/
mutual
def uptoBulk {H : Type} : DataW H → Nat
  | .lit (.string bytes) => bytes.length + 1
  | .lit _ => 1
  | .nil => 1
  | .ptr d => uptoBulk d + 1
  | .slice elems spare => uptoBulkAll elems + uptoBulkAll spare + 1
  | .agg parts => uptoBulkAll parts + 1
  | .iface _ d => uptoBulk d + 1
  | .map entries => uptoBulkEntries entries + 1
  | .held _ => 1
def uptoBulkAll {H : Type} : List (DataW H) → Nat
  | [] => 0
  | d :: r => uptoBulk d + uptoBulkAll r
def uptoBulkEntries {H : Type} : List (Lit × DataW H) → Nat
  | [] => 0
  | x :: r => uptoBulkEntry x + uptoBulkEntries r
def uptoBulkEntry {H : Type} : Lit × DataW H → Nat
  | (.string bytes, d) => bytes.length + uptoBulk d + 1
  | (_, d) => uptoBulk d + 1
 end
def uptoSmall : (H : Type) → List (DataW H) → Bool := fun _ ds => decide (uptoBulkAll ds ≤ 1048576)
def OpenSpec.upto (s : _root_.Go.ChangeSpec) : _root_.Go.OpenSpec := { _root_.Go.OpenSpec.ofChange s with cond := some uptoSmall }

/-- 'bindlelaw10.MatchLens', WHERE WHAT IT READS IS OF BULK AT MOST 1048576: true; the input reads as it did. -/
def matchLensUptoRow : OpenClaim := { program := "ytnkkdjnhnbiiaaa", sum := "efa09a08c05e7622c693a4df1f0a53ef1cf93d05fda4a8b86257d9d6dbb34f55", func := "bindle/bindlelaw10.MatchLens", spec := "matchLens", unfollowed := true, recurses := true, plainKeys := false, apart := false, narrowed := true }
def MatchLensUptoSaid : Prop := matchLensUptoRow.holds Try.pinned (OpenSpec.upto matchLensSpec)

/-- 'bindlelaw10.MatchBests', WHERE WHAT IT READS IS OF BULK AT MOST 1048576: true; the input reads as it did. -/
def matchBestsUptoRow : OpenClaim := { program := "ytnkkdjnhnbiiaaa", sum := "efa09a08c05e7622c693a4df1f0a53ef1cf93d05fda4a8b86257d9d6dbb34f55", func := "bindle/bindlelaw10.MatchBests", spec := "matchBests", unfollowed := true, recurses := true, plainKeys := false, apart := false, narrowed := true }
def MatchBestsUptoSaid : Prop := matchBestsUptoRow.holds Try.pinned (OpenSpec.upto matchBestsSpec)

/-- 'bindlelaw10.MatchChains', WHERE WHAT IT READS IS OF BULK AT MOST 1048576: true; the input reads as it did. -/
def matchChainsUptoRow : OpenClaim := { program := "ytnkkdjnhnbiiaaa", sum := "efa09a08c05e7622c693a4df1f0a53ef1cf93d05fda4a8b86257d9d6dbb34f55", func := "bindle/bindlelaw10.MatchChains", spec := "matchChains", unfollowed := true, recurses := true, plainKeys := false, apart := false, narrowed := true }
def MatchChainsUptoSaid : Prop := matchChainsUptoRow.holds Try.pinned (OpenSpec.upto matchChainsSpec)

/-- 'bindlelaw10.MatchThere', WHERE WHAT IT READS IS OF BULK AT MOST 1048576: true; the input reads as it did. -/
def matchThereUptoRow : OpenClaim := { program := "ytnkkdjnhnbiiaaa", sum := "efa09a08c05e7622c693a4df1f0a53ef1cf93d05fda4a8b86257d9d6dbb34f55", func := "bindle/bindlelaw10.MatchThere", spec := "matchThere", unfollowed := true, recurses := true, plainKeys := false, apart := false, narrowed := true }
def MatchThereUptoSaid : Prop := matchThereUptoRow.holds Try.pinned (OpenSpec.upto matchThereSpec)

end Rows
end Go.Proofs.Ytnkkdjnhnbiiaaa
