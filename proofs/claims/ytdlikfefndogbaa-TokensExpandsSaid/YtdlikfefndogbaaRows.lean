/-
  No cell of these rows narrows 'for every input' (looked for: loops, veiled, ifaces, maps, wideKeys, modest, calm, conditions, laid).
  DERIVED. THE GIVEN ROWS OF THIS SEAT. 4 by the template 'for every input the law returns true; each argument reads behind the call as it read before'; 0 by the template 'total and deterministic' (their statements: YtdlikfefndogbaaTotals.lean).
  GIVEN WITH THE SEED: the statements are not yours to turn. If you find one false, say at which input.
  Laid BY PROGRAM, IN A SANDBOX (cutbox-rows.mjs): the forced cells as the released guide's own fill.sh prints them over the translation 85ac3e82243d5394… (all of the seat's roots in one cut). By AI agents, Wed Nov 11 2026. No macro, syntax, notation, axiom, sorry.
-/
import Derived.Test.YtdlikfefndogbaaChecked
import GoSem.Claim
import GoSem.ClaimJoined
import GoSem.ClaimMapViews
import Derived.JoinedTies
import Derived.KernelRfl
namespace Go.Proofs.Ytdlikfefndogbaa
/- THE CELL 'sum', in the pinned program and in every row, IS THE sha256 OF THE DUMP (.gsa) THAT YtdlikfefndogbaaProg.lean LOADS. Nothing in Lean hashes anything: it is a label: what it is worth is what the hold of that sum in a sandbox is worth. -/
noncomputable def Try.pinned : Pinned := { name := "ytdlikfefndogbaa", sum := "85ac3e82243d539422497f70420fa445f3ac1d8d336fb45d08e261abd45fd2f0", checked := Try.checked }
namespace Rows
def none {H : Type} : Left H := { results := [], args := [] }

/-- 'bindlelaw11.TokensSplits': WHATEVER THE INPUT: true; the input reads as it did. -/
def tokensSplitsSpec : ChangeSpec := { name := "tokensSplits", fn := fun _ => fun
  | [d1, d2] => { results := [.lit (.bool true)], args := [d1, d2] }
  | _ => none }
def tokensSplitsRow : OpenClaim := { program := "ytdlikfefndogbaa", sum := "85ac3e82243d539422497f70420fa445f3ac1d8d336fb45d08e261abd45fd2f0", func := "bindle/bindlelaw11.TokensSplits", spec := "tokensSplits", unfollowed := true, recurses := true, plainKeys := false, apart := false }
def TokensSplitsSaid : Prop := tokensSplitsRow.holds Try.pinned (OpenSpec.ofChange tokensSplitsSpec)

/-- ITS FALSE NEIGHBOUR: 'it returns false'. Refute it at one input. -/
def tokensSplitsWrong : ChangeSpec := { name := "tokensSplits", fn := fun _ => fun
  | [d1, d2] => { results := [.lit (.bool false)], args := [d1, d2] }
  | _ => none }
def TokensSplitsWrongFalsely : Prop := tokensSplitsRow.holds Try.pinned (OpenSpec.ofChange tokensSplitsWrong)

/-- 'bindlelaw11.TokensExpands': WHATEVER THE INPUT: true; the input reads as it did. -/
def tokensExpandsSpec : ChangeSpec := { name := "tokensExpands", fn := fun _ => fun
  | [d1, d2] => { results := [.lit (.bool true)], args := [d1, d2] }
  | _ => none }
def tokensExpandsRow : OpenClaim := { program := "ytdlikfefndogbaa", sum := "85ac3e82243d539422497f70420fa445f3ac1d8d336fb45d08e261abd45fd2f0", func := "bindle/bindlelaw11.TokensExpands", spec := "tokensExpands", unfollowed := true, recurses := true, plainKeys := false, apart := false }
def TokensExpandsSaid : Prop := tokensExpandsRow.holds Try.pinned (OpenSpec.ofChange tokensExpandsSpec)

/-- ITS FALSE NEIGHBOUR: 'it returns false'. Refute it at one input. -/
def tokensExpandsWrong : ChangeSpec := { name := "tokensExpands", fn := fun _ => fun
  | [d1, d2] => { results := [.lit (.bool false)], args := [d1, d2] }
  | _ => none }
def TokensExpandsWrongFalsely : Prop := tokensExpandsRow.holds Try.pinned (OpenSpec.ofChange tokensExpandsWrong)

/-- 'bindlelaw11.TokensEach': WHATEVER THE INPUT: true; the input reads as it did. -/
def tokensEachSpec : ChangeSpec := { name := "tokensEach", fn := fun _ => fun
  | [d1, d2, d3] => { results := [.lit (.bool true)], args := [d1, d2, d3] }
  | _ => none }
def tokensEachRow : OpenClaim := { program := "ytdlikfefndogbaa", sum := "85ac3e82243d539422497f70420fa445f3ac1d8d336fb45d08e261abd45fd2f0", func := "bindle/bindlelaw11.TokensEach", spec := "tokensEach", unfollowed := true, recurses := true, plainKeys := false, apart := false }
def TokensEachSaid : Prop := tokensEachRow.holds Try.pinned (OpenSpec.ofChange tokensEachSpec)

/-- ITS FALSE NEIGHBOUR: 'it returns false'. Refute it at one input. -/
def tokensEachWrong : ChangeSpec := { name := "tokensEach", fn := fun _ => fun
  | [d1, d2, d3] => { results := [.lit (.bool false)], args := [d1, d2, d3] }
  | _ => none }
def TokensEachWrongFalsely : Prop := tokensEachRow.holds Try.pinned (OpenSpec.ofChange tokensEachWrong)

/-- 'bindlelaw11.TokensBack': WHATEVER THE INPUT: true; the input reads as it did. -/
def tokensBackSpec : ChangeSpec := { name := "tokensBack", fn := fun _ => fun
  | [d1, d2] => { results := [.lit (.bool true)], args := [d1, d2] }
  | _ => none }
def tokensBackRow : OpenClaim := { program := "ytdlikfefndogbaa", sum := "85ac3e82243d539422497f70420fa445f3ac1d8d336fb45d08e261abd45fd2f0", func := "bindle/bindlelaw11.TokensBack", spec := "tokensBack", unfollowed := true, recurses := true, plainKeys := false, apart := false }
def TokensBackSaid : Prop := tokensBackRow.holds Try.pinned (OpenSpec.ofChange tokensBackSpec)

/-- ITS FALSE NEIGHBOUR: 'it returns false'. Refute it at one input. -/
def tokensBackWrong : ChangeSpec := { name := "tokensBack", fn := fun _ => fun
  | [d1, d2] => { results := [.lit (.bool false)], args := [d1, d2] }
  | _ => none }
def TokensBackWrongFalsely : Prop := tokensBackRow.holds Try.pinned (OpenSpec.ofChange tokensBackWrong)

/- THE SECOND FORM. 'bulk': how many values and letters a reading holds, each counted each time it is reached (what is shared counts as often as it is met; a slice's spare places count too). A statement '..UptoSaid' is the law's where the arguments, and the package variables that the reading takes, are together of bulk at most 1048576: NARROWER than '..Said'. Prove '..Said' where nothing that the law and all that it calls make is longer than what came in: it says more and counts as full. Else prove '..UptoSaid'. A law counts once. -/
mutual
def uptoBulk {H : Type} : DataW H → Nat
  | .lit (.string bytes) => bytes.length + 1
  | .lit _ => 1
  | .nil => 1
  | .ptr d => uptoBulk d + 1
  | .slice elems spare => uptoBulkAll elems + uptoBulkAll spare + 1
  | .agg parts => uptoBulkAll parts + 1
  | .iface _ d => uptoBulk d + 1
  | .map entries => uptoBulkEntries entries + 1
  | .held _ => 1
def uptoBulkAll {H : Type} : List (DataW H) → Nat
  | [] => 0
  | d :: r => uptoBulk d + uptoBulkAll r
def uptoBulkEntries {H : Type} : List (Lit × DataW H) → Nat
  | [] => 0
  | x :: r => uptoBulkEntry x + uptoBulkEntries r
def uptoBulkEntry {H : Type} : Lit × DataW H → Nat
  | (.string bytes, d) => bytes.length + uptoBulk d + 1
  | (_, d) => uptoBulk d + 1
 end
def uptoSmall : (H : Type) → List (DataW H) → Bool := fun _ ds => decide (uptoBulkAll ds ≤ 1048576)
def OpenSpec.upto (s : _root_.Go.ChangeSpec) : _root_.Go.OpenSpec := { _root_.Go.OpenSpec.ofChange s with cond := some uptoSmall }

/-- 'bindlelaw11.TokensSplits', WHERE WHAT IT READS IS OF BULK AT MOST 1048576: true; the input reads as it did. -/
def tokensSplitsUptoRow : OpenClaim := { program := "ytdlikfefndogbaa", sum := "85ac3e82243d539422497f70420fa445f3ac1d8d336fb45d08e261abd45fd2f0", func := "bindle/bindlelaw11.TokensSplits", spec := "tokensSplits", unfollowed := true, recurses := true, plainKeys := false, apart := false, narrowed := true }
def TokensSplitsUptoSaid : Prop := tokensSplitsUptoRow.holds Try.pinned (OpenSpec.upto tokensSplitsSpec)

/-- 'bindlelaw11.TokensExpands', WHERE WHAT IT READS IS OF BULK AT MOST 1048576: true; the input reads as it did. -/
def tokensExpandsUptoRow : OpenClaim := { program := "ytdlikfefndogbaa", sum := "85ac3e82243d539422497f70420fa445f3ac1d8d336fb45d08e261abd45fd2f0", func := "bindle/bindlelaw11.TokensExpands", spec := "tokensExpands", unfollowed := true, recurses := true, plainKeys := false, apart := false, narrowed := true }
def TokensExpandsUptoSaid : Prop := tokensExpandsUptoRow.holds Try.pinned (OpenSpec.upto tokensExpandsSpec)

/-- 'bindlelaw11.TokensEach', WHERE WHAT IT READS IS OF BULK AT MOST 1048576: true; the input reads as it did. -/
def tokensEachUptoRow : OpenClaim := { program := "ytdlikfefndogbaa", sum := "85ac3e82243d539422497f70420fa445f3ac1d8d336fb45d08e261abd45fd2f0", func := "bindle/bindlelaw11.TokensEach", spec := "tokensEach", unfollowed := true, recurses := true, plainKeys := false, apart := false, narrowed := true }
def TokensEachUptoSaid : Prop := tokensEachUptoRow.holds Try.pinned (OpenSpec.upto tokensEachSpec)

/-- 'bindlelaw11.TokensBack', WHERE WHAT IT READS IS OF BULK AT MOST 1048576: true; the input reads as it did. -/
def tokensBackUptoRow : OpenClaim := { program := "ytdlikfefndogbaa", sum := "85ac3e82243d539422497f70420fa445f3ac1d8d336fb45d08e261abd45fd2f0", func := "bindle/bindlelaw11.TokensBack", spec := "tokensBack", unfollowed := true, recurses := true, plainKeys := false, apart := false, narrowed := true }
def TokensBackUptoSaid : Prop := tokensBackUptoRow.holds Try.pinned (OpenSpec.upto tokensBackSpec)

end Rows
end Go.Proofs.Ytdlikfefndogbaa
