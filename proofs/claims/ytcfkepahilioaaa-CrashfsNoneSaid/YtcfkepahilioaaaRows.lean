/-
  No cell of these rows narrows 'for every input' (looked for: loops, veiled, ifaces, maps, wideKeys, modest, calm, conditions, laid).
  DERIVED. THE GIVEN ROWS OF THIS SEAT. 2 by the template 'for every input the law returns true; each argument reads behind the call as it read before'; 0 by the template 'total and deterministic' (their statements: YtcfkepahilioaaaTotals.lean).
  GIVEN WITH THE SEED: the statements are not yours to turn. If you find one false, say at which input.
  Laid BY PROGRAM, IN A SANDBOX (cutbox-rows.mjs): the forced cells as the released guide's own fill.sh prints them over the translation 00918d572d0ede65… (all of the seat's roots in one cut). By AI agents, Wed Nov 11 2026. No macro, syntax, notation, axiom, sorry.
-/
import Derived.Test.YtcfkepahilioaaaChecked
import GoSem.Claim
import GoSem.ClaimJoined
import GoSem.ClaimMapViews
import Derived.JoinedTies
import Derived.KernelRfl
namespace Go.Proofs.Ytcfkepahilioaaa
/- THE CELL 'sum', in the pinned program and in every row, IS THE sha256 OF THE DUMP (.gsa) THAT YtcfkepahilioaaaProg.lean LOADS. Nothing in Lean hashes anything: it is a label: what it is worth is what the hold of that sum in a sandbox is worth. -/
noncomputable def Try.pinned : Pinned := { name := "ytcfkepahilioaaa", sum := "00918d572d0ede6588399ec1b12ac7f662b81ac8d01197cbdea7e3e1cfa063e2", checked := Try.checked }
namespace Rows
def none {H : Type} : Left H := { results := [], args := [] }

/-- 'bindlelaw06.CrashfsNone': WHATEVER THE INPUT: true; the input reads as it did. -/
def crashfsNoneSpec : ChangeSpec := { name := "crashfsNone", fn := fun _ => fun
  | [d1, d2] => { results := [.lit (.bool true)], args := [d1, d2] }
  | _ => none }
def crashfsNoneRow : OpenClaim := { program := "ytcfkepahilioaaa", sum := "00918d572d0ede6588399ec1b12ac7f662b81ac8d01197cbdea7e3e1cfa063e2", func := "bindle/bindlelaw06.CrashfsNone", spec := "crashfsNone", inPlace := ["maps.clone"], unfollowed := true, recurses := true, apart := false }
def CrashfsNoneSaid : Prop := crashfsNoneRow.holds Try.pinned (OpenSpec.ofChange crashfsNoneSpec)

/-- ITS FALSE NEIGHBOUR: 'it returns false'. Refute it at one input. -/
def crashfsNoneWrong : ChangeSpec := { name := "crashfsNone", fn := fun _ => fun
  | [d1, d2] => { results := [.lit (.bool false)], args := [d1, d2] }
  | _ => none }
def CrashfsNoneWrongFalsely : Prop := crashfsNoneRow.holds Try.pinned (OpenSpec.ofChange crashfsNoneWrong)

/-- 'bindlelaw06.CrashfsKeeps': WHATEVER THE INPUT: true; the input reads as it did. -/
def crashfsKeepsSpec : ChangeSpec := { name := "crashfsKeeps", fn := fun _ => fun
  | [d1, d2] => { results := [.lit (.bool true)], args := [d1, d2] }
  | _ => none }
def crashfsKeepsRow : OpenClaim := { program := "ytcfkepahilioaaa", sum := "00918d572d0ede6588399ec1b12ac7f662b81ac8d01197cbdea7e3e1cfa063e2", func := "bindle/bindlelaw06.CrashfsKeeps", spec := "crashfsKeeps", inPlace := ["maps.clone"], unfollowed := true, recurses := true, apart := false }
def CrashfsKeepsSaid : Prop := crashfsKeepsRow.holds Try.pinned (OpenSpec.ofChange crashfsKeepsSpec)

/-- ITS FALSE NEIGHBOUR: 'it returns false'. Refute it at one input. -/
def crashfsKeepsWrong : ChangeSpec := { name := "crashfsKeeps", fn := fun _ => fun
  | [d1, d2] => { results := [.lit (.bool false)], args := [d1, d2] }
  | _ => none }
def CrashfsKeepsWrongFalsely : Prop := crashfsKeepsRow.holds Try.pinned (OpenSpec.ofChange crashfsKeepsWrong)

/- THE SECOND FORM. 'bulk': how many values and letters a reading holds, each counted each time it is reached (what is shared counts as often as it is met; a slice's spare places count too). A statement '..UptoSaid' is the law's where the arguments, and the package variables that the reading takes, are together of bulk at most 1048576: NARROWER than '..Said'. Prove '..Said' where nothing that the law and all that it calls make is longer than what came in: it says more and counts as full. Else prove '..UptoSaid'. A law counts once. -/
mutual
def uptoBulk {H : Type} : DataW H → Nat
  | .lit (.string bytes) => bytes.length + 1
  | .lit _ => 1
  | .nil => 1
  | .ptr d => uptoBulk d + 1
  | .slice elems spare => uptoBulkAll elems + uptoBulkAll spare + 1
  | .agg parts => uptoBulkAll parts + 1
  | .iface _ d => uptoBulk d + 1
  | .map entries => uptoBulkEntries entries + 1
  | .held _ => 1
def uptoBulkAll {H : Type} : List (DataW H) → Nat
  | [] => 0
  | d :: r => uptoBulk d + uptoBulkAll r
def uptoBulkEntries {H : Type} : List (Lit × DataW H) → Nat
  | [] => 0
  | x :: r => uptoBulkEntry x + uptoBulkEntries r
def uptoBulkEntry {H : Type} : Lit × DataW H → Nat
  | (.string bytes, d) => bytes.length + uptoBulk d + 1
  | (_, d) => uptoBulk d + 1
 end
def uptoSmall : (H : Type) → List (DataW H) → Bool := fun _ ds => decide (uptoBulkAll ds ≤ 1048576)
def OpenSpec.upto (s : _root_.Go.ChangeSpec) : _root_.Go.OpenSpec := { _root_.Go.OpenSpec.ofChange s with cond := some uptoSmall }

/-- 'bindlelaw06.CrashfsNone', WHERE WHAT IT READS IS OF BULK AT MOST 1048576: true; the input reads as it did. -/
def crashfsNoneUptoRow : OpenClaim := { program := "ytcfkepahilioaaa", sum := "00918d572d0ede6588399ec1b12ac7f662b81ac8d01197cbdea7e3e1cfa063e2", func := "bindle/bindlelaw06.CrashfsNone", spec := "crashfsNone", inPlace := ["maps.clone"], unfollowed := true, recurses := true, apart := false, narrowed := true }
def CrashfsNoneUptoSaid : Prop := crashfsNoneUptoRow.holds Try.pinned (OpenSpec.upto crashfsNoneSpec)

/-- 'bindlelaw06.CrashfsKeeps', WHERE WHAT IT READS IS OF BULK AT MOST 1048576: true; the input reads as it did. -/
def crashfsKeepsUptoRow : OpenClaim := { program := "ytcfkepahilioaaa", sum := "00918d572d0ede6588399ec1b12ac7f662b81ac8d01197cbdea7e3e1cfa063e2", func := "bindle/bindlelaw06.CrashfsKeeps", spec := "crashfsKeeps", inPlace := ["maps.clone"], unfollowed := true, recurses := true, apart := false, narrowed := true }
def CrashfsKeepsUptoSaid : Prop := crashfsKeepsUptoRow.holds Try.pinned (OpenSpec.upto crashfsKeepsSpec)

end Rows
end Go.Proofs.Ytcfkepahilioaaa
