/-
  No cell of these rows narrows 'for every input' (looked for: loops, veiled, ifaces, maps, wideKeys, modest, calm, conditions, laid).
  DERIVED. THE GIVEN ROWS OF THIS SEAT. 5 by the template 'for every input the law returns true; each argument reads behind the call as it read before'; 0 by the template 'total and deterministic' (their statements: YtkikgidmioofaaaGreatTotals.lean).
  GIVEN WITH THE SEED: the statements are not yours to turn. If you find one false, say at which input.
  Laid BY PROGRAM, IN A SANDBOX (cutbox-rows.mjs): the forced cells as the released guide's own fill.sh prints them over the translation 4f6d2e9013532e0f… (all of the seat's roots in one cut). By AI agents, Wed Nov 11 2026. No macro, syntax, notation, axiom, sorry.
-/
import Derived.Test.YtkikgidmioofaaaGreatChecked
import GoSem.Claim
import GoSem.ClaimJoined
import GoSem.ClaimMapViews
import Derived.JoinedTies
import Derived.KernelRfl
namespace Go.Proofs.YtkikgidmioofaaaGreat
/- THE CELL 'sum', in the pinned program and in every row, IS THE sha256 OF THE DUMP (.gsa) THAT YtkikgidmioofaaaGreatProg.lean LOADS. Nothing in Lean hashes anything: it is a label: what it is worth is what the hold of that sum in a sandbox is worth. -/
noncomputable def Tryz.pinned : Pinned := { name := "ytkikgidmioofaaagreat", sum := "4f6d2e9013532e0ffc8821f5a7fcc7e0dee026e519f30a828e62ae54416c740d", checked := Tryz.checked }
namespace Rows
def none {H : Type} : Left H := { results := [], args := [] }

/-- 'bindlelaw14.CodecPacks': WHATEVER THE INPUT: true; the input reads as it did. -/
def codecPacksSpec : ChangeSpec := { name := "codecPacks", fn := fun _ => fun
  | [d1, d2] => { results := [.lit (.bool true)], args := [d1, d2] }
  | _ => none }
def codecPacksRow : OpenClaim := { program := "ytkikgidmioofaaagreat", sum := "4f6d2e9013532e0ffc8821f5a7fcc7e0dee026e519f30a828e62ae54416c740d", func := "bindle/bindlelaw14.CodecPacks", spec := "codecPacks", unfollowed := true, recurses := true, plainKeys := false, apart := false }
def CodecPacksSaid : Prop := codecPacksRow.holds Tryz.pinned (OpenSpec.ofChange codecPacksSpec)

/-- ITS FALSE NEIGHBOUR: 'it returns false'. Refute it at one input. -/
def codecPacksWrong : ChangeSpec := { name := "codecPacks", fn := fun _ => fun
  | [d1, d2] => { results := [.lit (.bool false)], args := [d1, d2] }
  | _ => none }
def CodecPacksWrongFalsely : Prop := codecPacksRow.holds Tryz.pinned (OpenSpec.ofChange codecPacksWrong)

/-- 'bindlelaw14.CodecUnpacks': WHATEVER THE INPUT: true; the input reads as it did. -/
def codecUnpacksSpec : ChangeSpec := { name := "codecUnpacks", fn := fun _ => fun
  | [d1, d2, d3] => { results := [.lit (.bool true)], args := [d1, d2, d3] }
  | _ => none }
def codecUnpacksRow : OpenClaim := { program := "ytkikgidmioofaaagreat", sum := "4f6d2e9013532e0ffc8821f5a7fcc7e0dee026e519f30a828e62ae54416c740d", func := "bindle/bindlelaw14.CodecUnpacks", spec := "codecUnpacks", unfollowed := true, recurses := true, plainKeys := false, apart := false }
def CodecUnpacksSaid : Prop := codecUnpacksRow.holds Tryz.pinned (OpenSpec.ofChange codecUnpacksSpec)

/-- ITS FALSE NEIGHBOUR: 'it returns false'. Refute it at one input. -/
def codecUnpacksWrong : ChangeSpec := { name := "codecUnpacks", fn := fun _ => fun
  | [d1, d2, d3] => { results := [.lit (.bool false)], args := [d1, d2, d3] }
  | _ => none }
def CodecUnpacksWrongFalsely : Prop := codecUnpacksRow.holds Tryz.pinned (OpenSpec.ofChange codecUnpacksWrong)

/-- 'bindlelaw14.CodecStreams': WHATEVER THE INPUT: true; the input reads as it did. -/
def codecStreamsSpec : ChangeSpec := { name := "codecStreams", fn := fun _ => fun
  | [d1, d2] => { results := [.lit (.bool true)], args := [d1, d2] }
  | _ => none }
def codecStreamsRow : OpenClaim := { program := "ytkikgidmioofaaagreat", sum := "4f6d2e9013532e0ffc8821f5a7fcc7e0dee026e519f30a828e62ae54416c740d", func := "bindle/bindlelaw14.CodecStreams", spec := "codecStreams", unfollowed := true, recurses := true, plainKeys := false, apart := false }
def CodecStreamsSaid : Prop := codecStreamsRow.holds Tryz.pinned (OpenSpec.ofChange codecStreamsSpec)

/-- ITS FALSE NEIGHBOUR: 'it returns false'. Refute it at one input. -/
def codecStreamsWrong : ChangeSpec := { name := "codecStreams", fn := fun _ => fun
  | [d1, d2] => { results := [.lit (.bool false)], args := [d1, d2] }
  | _ => none }
def CodecStreamsWrongFalsely : Prop := codecStreamsRow.holds Tryz.pinned (OpenSpec.ofChange codecStreamsWrong)

/-- 'bindlelaw14.CodecBack': WHATEVER THE INPUT: true; the input reads as it did. -/
def codecBackSpec : ChangeSpec := { name := "codecBack", fn := fun _ => fun
  | [d1, d2, d3] => { results := [.lit (.bool true)], args := [d1, d2, d3] }
  | _ => none }
def codecBackRow : OpenClaim := { program := "ytkikgidmioofaaagreat", sum := "4f6d2e9013532e0ffc8821f5a7fcc7e0dee026e519f30a828e62ae54416c740d", func := "bindle/bindlelaw14.CodecBack", spec := "codecBack", unfollowed := true, recurses := true, plainKeys := false, apart := false }
def CodecBackSaid : Prop := codecBackRow.holds Tryz.pinned (OpenSpec.ofChange codecBackSpec)

/-- ITS FALSE NEIGHBOUR: 'it returns false'. Refute it at one input. -/
def codecBackWrong : ChangeSpec := { name := "codecBack", fn := fun _ => fun
  | [d1, d2, d3] => { results := [.lit (.bool false)], args := [d1, d2, d3] }
  | _ => none }
def CodecBackWrongFalsely : Prop := codecBackRow.holds Tryz.pinned (OpenSpec.ofChange codecBackWrong)

/-- 'bindlelaw14.CodecRows': WHATEVER THE INPUT: true; the input reads as it did. -/
def codecRowsSpec : ChangeSpec := { name := "codecRows", fn := fun _ => fun
  | [d1, d2] => { results := [.lit (.bool true)], args := [d1, d2] }
  | _ => none }
def codecRowsRow : OpenClaim := { program := "ytkikgidmioofaaagreat", sum := "4f6d2e9013532e0ffc8821f5a7fcc7e0dee026e519f30a828e62ae54416c740d", func := "bindle/bindlelaw14.CodecRows", spec := "codecRows", unfollowed := true, recurses := true, plainKeys := false, apart := false }
def CodecRowsSaid : Prop := codecRowsRow.holds Tryz.pinned (OpenSpec.ofChange codecRowsSpec)

/-- ITS FALSE NEIGHBOUR: 'it returns false'. Refute it at one input. -/
def codecRowsWrong : ChangeSpec := { name := "codecRows", fn := fun _ => fun
  | [d1, d2] => { results := [.lit (.bool false)], args := [d1, d2] }
  | _ => none }
def CodecRowsWrongFalsely : Prop := codecRowsRow.holds Tryz.pinned (OpenSpec.ofChange codecRowsWrong)

/- THE SECOND FORM. 'bulk': how many values and letters a reading holds, each counted each time it is reached (what is shared counts as often as it is met; a slice's spare places count too). A statement '..UptoSaid' is the law's where the arguments, and the package variables that the reading takes, are together of bulk at most 1048576: NARROWER than '..Said'. Prove '..Said' where nothing that the law and all that it calls make is longer than what came in: it says more and counts as full. Else prove '..UptoSaid'. A law counts once. -/
mutual
def uptoBulk {H : Type} : DataW H → Nat
  | .lit (.string bytes) => bytes.length + 1
  | .lit _ => 1
  | .nil => 1
  | .ptr d => uptoBulk d + 1
  | .slice elems spare => uptoBulkAll elems + uptoBulkAll spare + 1
  | .agg parts => uptoBulkAll parts + 1
  | .iface _ d => uptoBulk d + 1
  | .map entries => uptoBulkEntries entries + 1
  | .held _ => 1
def uptoBulkAll {H : Type} : List (DataW H) → Nat
  | [] => 0
  | d :: r => uptoBulk d + uptoBulkAll r
def uptoBulkEntries {H : Type} : List (Lit × DataW H) → Nat
  | [] => 0
  | x :: r => uptoBulkEntry x + uptoBulkEntries r
def uptoBulkEntry {H : Type} : Lit × DataW H → Nat
  | (.string bytes, d) => bytes.length + uptoBulk d + 1
  | (_, d) => uptoBulk d + 1
 end
def uptoSmall : (H : Type) → List (DataW H) → Bool := fun _ ds => decide (uptoBulkAll ds ≤ 1048576)
def OpenSpec.upto (s : _root_.Go.ChangeSpec) : _root_.Go.OpenSpec := { _root_.Go.OpenSpec.ofChange s with cond := some uptoSmall }

/-- 'bindlelaw14.CodecPacks', WHERE WHAT IT READS IS OF BULK AT MOST 1048576: true; the input reads as it did. -/
def codecPacksUptoRow : OpenClaim := { program := "ytkikgidmioofaaagreat", sum := "4f6d2e9013532e0ffc8821f5a7fcc7e0dee026e519f30a828e62ae54416c740d", func := "bindle/bindlelaw14.CodecPacks", spec := "codecPacks", unfollowed := true, recurses := true, plainKeys := false, apart := false, narrowed := true }
def CodecPacksUptoSaid : Prop := codecPacksUptoRow.holds Tryz.pinned (OpenSpec.upto codecPacksSpec)

/-- 'bindlelaw14.CodecUnpacks', WHERE WHAT IT READS IS OF BULK AT MOST 1048576: true; the input reads as it did. -/
def codecUnpacksUptoRow : OpenClaim := { program := "ytkikgidmioofaaagreat", sum := "4f6d2e9013532e0ffc8821f5a7fcc7e0dee026e519f30a828e62ae54416c740d", func := "bindle/bindlelaw14.CodecUnpacks", spec := "codecUnpacks", unfollowed := true, recurses := true, plainKeys := false, apart := false, narrowed := true }
def CodecUnpacksUptoSaid : Prop := codecUnpacksUptoRow.holds Tryz.pinned (OpenSpec.upto codecUnpacksSpec)

/-- 'bindlelaw14.CodecStreams', WHERE WHAT IT READS IS OF BULK AT MOST 1048576: true; the input reads as it did. -/
def codecStreamsUptoRow : OpenClaim := { program := "ytkikgidmioofaaagreat", sum := "4f6d2e9013532e0ffc8821f5a7fcc7e0dee026e519f30a828e62ae54416c740d", func := "bindle/bindlelaw14.CodecStreams", spec := "codecStreams", unfollowed := true, recurses := true, plainKeys := false, apart := false, narrowed := true }
def CodecStreamsUptoSaid : Prop := codecStreamsUptoRow.holds Tryz.pinned (OpenSpec.upto codecStreamsSpec)

/-- 'bindlelaw14.CodecBack', WHERE WHAT IT READS IS OF BULK AT MOST 1048576: true; the input reads as it did. -/
def codecBackUptoRow : OpenClaim := { program := "ytkikgidmioofaaagreat", sum := "4f6d2e9013532e0ffc8821f5a7fcc7e0dee026e519f30a828e62ae54416c740d", func := "bindle/bindlelaw14.CodecBack", spec := "codecBack", unfollowed := true, recurses := true, plainKeys := false, apart := false, narrowed := true }
def CodecBackUptoSaid : Prop := codecBackUptoRow.holds Tryz.pinned (OpenSpec.upto codecBackSpec)

/-- 'bindlelaw14.CodecRows', WHERE WHAT IT READS IS OF BULK AT MOST 1048576: true; the input reads as it did. -/
def codecRowsUptoRow : OpenClaim := { program := "ytkikgidmioofaaagreat", sum := "4f6d2e9013532e0ffc8821f5a7fcc7e0dee026e519f30a828e62ae54416c740d", func := "bindle/bindlelaw14.CodecRows", spec := "codecRows", unfollowed := true, recurses := true, plainKeys := false, apart := false, narrowed := true }
def CodecRowsUptoSaid : Prop := codecRowsUptoRow.holds Tryz.pinned (OpenSpec.upto codecRowsSpec)

end Rows
end Go.Proofs.YtkikgidmioofaaaGreat
