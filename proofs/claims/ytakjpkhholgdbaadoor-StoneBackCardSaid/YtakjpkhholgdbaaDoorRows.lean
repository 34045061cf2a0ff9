/-
  NARROWER THAN 'FOR EVERY INPUT', by the rows' own cells (each row's printed sentence says how): StonePuts: laid · StoneTakes: laid · StoneBack: laid · StoneFlips: laid.
  DERIVED. THE GIVEN ROWS OF THIS SEAT. 4 by the template 'for every input the law returns true; each argument reads behind the call as it read before'; 0 by the template 'total and deterministic' (their statements: YtakjpkhholgdbaaDoorTotals.lean).
  GIVEN WITH THE SEED: the statements are not yours to turn. If you find one false, say at which input.
  Laid BY PROGRAM, IN A SANDBOX (cutbox-rows.mjs): the forced cells as the released guide's own fill.sh prints them over the translation b72aafafa0770a08… (all of the seat's roots in one cut). By AI agents, Wed Nov 11 2026. No macro, syntax, notation, axiom, sorry.
-/
import Derived.Test.YtakjpkhholgdbaaDoorChecked
import GoSem.PinnedTables
import GoSem.Claim
import GoSem.ClaimJoined
import GoSem.ClaimMapViews
import Derived.JoinedTies
import Derived.KernelRfl
namespace Go.Proofs.YtakjpkhholgdbaaDoor
/- THE CELL 'sum', in the pinned program and in every row, IS THE sha256 OF THE DUMP (.gsa) THAT YtakjpkhholgdbaaDoorProg.lean LOADS. Nothing in Lean hashes anything: it is a label: what it is worth is what the hold of that sum in a sandbox is worth. -/
noncomputable def Tryd.pinned : Pinned := { name := "ytakjpkhholgdbaadoor", sum := "b72aafafa0770a086b745499a8fb9cb930f351a163953254690038818520ea01", checked := Tryd.checked }
namespace Rows
def none {H : Type} : Left H := { results := [], args := [] }

/- WHAT THE LISTED PACKAGE-LEVEL VARIABLES READ AS WHEN THE CALL BEGINS. Each datum BY PROGRAM (the guide's laid-datum.mjs) off the statement by which the dump's own 'gosem.cut.vars' lays the variable. In a bare row this is a premise. The card (YtakjpkhholgdbaaDoorCards.lean) ties it to the program's text. -/
def laid_unicode_utf8_acceptRanges {H : Type} : DataW H := .agg [.agg [.lit (.int .u8 128), .lit (.int .u8 191)], .agg [.lit (.int .u8 160), .lit (.int .u8 191)], .agg [.lit (.int .u8 128), .lit (.int .u8 159)], .agg [.lit (.int .u8 144), .lit (.int .u8 191)], .agg [.lit (.int .u8 128), .lit (.int .u8 143)], .agg [.lit (.int .u8 0), .lit (.int .u8 0)], .agg [.lit (.int .u8 0), .lit (.int .u8 0)], .agg [.lit (.int .u8 0), .lit (.int .u8 0)], .agg [.lit (.int .u8 0), .lit (.int .u8 0)], .agg [.lit (.int .u8 0), .lit (.int .u8 0)], .agg [.lit (.int .u8 0), .lit (.int .u8 0)], .agg [.lit (.int .u8 0), .lit (.int .u8 0)], .agg [.lit (.int .u8 0), .lit (.int .u8 0)], .agg [.lit (.int .u8 0), .lit (.int .u8 0)], .agg [.lit (.int .u8 0), .lit (.int .u8 0)], .agg [.lit (.int .u8 0), .lit (.int .u8 0)]]
/-- One of Go's own tables, pinned by name: the form's constant. -/
def laid_unicode_utf8_first : DataW Unit := Go.Pinned.utf8First
def laid_bindle_local_widths {H : Type} : DataW H := .agg [.lit (.int .i64 1), .lit (.int .i64 1), .lit (.int .i64 4), .lit (.int .i64 4), .lit (.int .i64 4)]

/-- 'bindlelaw17.StonePuts': WHATEVER THE INPUT: true; the input reads as it did. -/
def stonePutsSpec : ChangeSpec := { name := "stonePuts", fn := fun _ => fun
  | [d] => { results := [.lit (.bool true)], args := [d] }
  | _ => none }
def stonePutsRow : OpenClaim := { program := "ytakjpkhholgdbaadoor", sum := "b72aafafa0770a086b745499a8fb9cb930f351a163953254690038818520ea01", func := "bindle/bindlelaw17.StonePuts", spec := "stonePuts", inPlace := ["internal/bytealg.IndexByteString", "internal/bytealg.IndexString"], unfollowed := true, recurses := true, named := ["unicode/utf8.first", "unicode/utf8.acceptRanges", "internal/bytealg.MaxLen"], apart := false, laid := [("unicode/utf8.acceptRanges", laid_unicode_utf8_acceptRanges), ("unicode/utf8.first", laid_unicode_utf8_first)] }
def StonePutsSaid : Prop := stonePutsRow.holds Tryd.pinned (OpenSpec.ofChange stonePutsSpec)

/-- ITS FALSE NEIGHBOUR: 'it returns false'. Refute it at one input. -/
def stonePutsWrong : ChangeSpec := { name := "stonePuts", fn := fun _ => fun
  | [d] => { results := [.lit (.bool false)], args := [d] }
  | _ => none }
def StonePutsWrongFalsely : Prop := stonePutsRow.holds Tryd.pinned (OpenSpec.ofChange stonePutsWrong)

/-- 'bindlelaw17.StoneTakes': WHATEVER THE INPUT: true; the input reads as it did. -/
def stoneTakesSpec : ChangeSpec := { name := "stoneTakes", fn := fun _ => fun
  | [d1, d2] => { results := [.lit (.bool true)], args := [d1, d2] }
  | _ => none }
def stoneTakesRow : OpenClaim := { program := "ytakjpkhholgdbaadoor", sum := "b72aafafa0770a086b745499a8fb9cb930f351a163953254690038818520ea01", func := "bindle/bindlelaw17.StoneTakes", spec := "stoneTakes", inPlace := ["internal/bytealg.IndexByteString", "internal/bytealg.IndexString"], unfollowed := true, recurses := true, named := ["unicode/utf8.first", "unicode/utf8.acceptRanges", "internal/bytealg.MaxLen"], apart := false, laid := [("unicode/utf8.acceptRanges", laid_unicode_utf8_acceptRanges), ("unicode/utf8.first", laid_unicode_utf8_first)] }
def StoneTakesSaid : Prop := stoneTakesRow.holds Tryd.pinned (OpenSpec.ofChange stoneTakesSpec)

/-- ITS FALSE NEIGHBOUR: 'it returns false'. Refute it at one input. -/
def stoneTakesWrong : ChangeSpec := { name := "stoneTakes", fn := fun _ => fun
  | [d1, d2] => { results := [.lit (.bool false)], args := [d1, d2] }
  | _ => none }
def StoneTakesWrongFalsely : Prop := stoneTakesRow.holds Tryd.pinned (OpenSpec.ofChange stoneTakesWrong)

/-- 'bindlelaw17.StoneBack': WHATEVER THE INPUT: true; the input reads as it did. -/
def stoneBackSpec : ChangeSpec := { name := "stoneBack", fn := fun _ => fun
  | [d1, d2, d3] => { results := [.lit (.bool true)], args := [d1, d2, d3] }
  | _ => none }
def stoneBackRow : OpenClaim := { program := "ytakjpkhholgdbaadoor", sum := "b72aafafa0770a086b745499a8fb9cb930f351a163953254690038818520ea01", func := "bindle/bindlelaw17.StoneBack", spec := "stoneBack", inPlace := ["internal/bytealg.IndexByteString", "internal/bytealg.IndexString"], unfollowed := true, recurses := true, named := ["unicode/utf8.first", "unicode/utf8.acceptRanges", "internal/bytealg.MaxLen", "bindle/local.widths"], apart := false, laid := [("unicode/utf8.acceptRanges", laid_unicode_utf8_acceptRanges), ("bindle/local.widths", laid_bindle_local_widths), ("unicode/utf8.first", laid_unicode_utf8_first)] }
def StoneBackSaid : Prop := stoneBackRow.holds Tryd.pinned (OpenSpec.ofChange stoneBackSpec)

/-- ITS FALSE NEIGHBOUR: 'it returns false'. Refute it at one input. -/
def stoneBackWrong : ChangeSpec := { name := "stoneBack", fn := fun _ => fun
  | [d1, d2, d3] => { results := [.lit (.bool false)], args := [d1, d2, d3] }
  | _ => none }
def StoneBackWrongFalsely : Prop := stoneBackRow.holds Tryd.pinned (OpenSpec.ofChange stoneBackWrong)

/-- 'bindlelaw17.StoneFlips': WHATEVER THE INPUT: true; the input reads as it did. -/
def stoneFlipsSpec : ChangeSpec := { name := "stoneFlips", fn := fun _ => fun
  | [d1, d2, d3] => { results := [.lit (.bool true)], args := [d1, d2, d3] }
  | _ => none }
def stoneFlipsRow : OpenClaim := { program := "ytakjpkhholgdbaadoor", sum := "b72aafafa0770a086b745499a8fb9cb930f351a163953254690038818520ea01", func := "bindle/bindlelaw17.StoneFlips", spec := "stoneFlips", inPlace := ["internal/bytealg.IndexByteString", "internal/bytealg.IndexString"], unfollowed := true, recurses := true, named := ["unicode/utf8.first", "unicode/utf8.acceptRanges", "internal/bytealg.MaxLen"], apart := false, laid := [("unicode/utf8.acceptRanges", laid_unicode_utf8_acceptRanges), ("unicode/utf8.first", laid_unicode_utf8_first)] }
def StoneFlipsSaid : Prop := stoneFlipsRow.holds Tryd.pinned (OpenSpec.ofChange stoneFlipsSpec)

/-- ITS FALSE NEIGHBOUR: 'it returns false'. Refute it at one input. -/
def stoneFlipsWrong : ChangeSpec := { name := "stoneFlips", fn := fun _ => fun
  | [d1, d2, d3] => { results := [.lit (.bool false)], args := [d1, d2, d3] }
  | _ => none }
def StoneFlipsWrongFalsely : Prop := stoneFlipsRow.holds Tryd.pinned (OpenSpec.ofChange stoneFlipsWrong)

/- THE SECOND FORM. 'bulk': how many values and letters a reading holds, each counted each time it is reached (what is shared counts as often as it is met; a slice's spare places count too). A statement '..UptoSaid' is the law's where the arguments, and the package variables that the reading takes, are together of bulk at most 1048576: NARROWER than '..Said'. Prove '..Said' where nothing that the law and all that it calls make is longer than what came in: it says more and counts as full. Else prove '..UptoSaid'. A law counts once. -/
mutual
def uptoBulk {H : Type} : DataW H → Nat
  | .lit (.string bytes) => bytes.length + 1
  | .lit _ => 1
  | .nil => 1
  | .ptr d => uptoBulk d + 1
  | .slice elems spare => uptoBulkAll elems + uptoBulkAll spare + 1
  | .agg parts => uptoBulkAll parts + 1
  | .iface _ d => uptoBulk d + 1
  | .map entries => uptoBulkEntries entries + 1
  | .held _ => 1
def uptoBulkAll {H : Type} : List (DataW H) → Nat
  | [] => 0
  | d :: r => uptoBulk d + uptoBulkAll r
def uptoBulkEntries {H : Type} : List (Lit × DataW H) → Nat
  | [] => 0
  | x :: r => uptoBulkEntry x + uptoBulkEntries r
def uptoBulkEntry {H : Type} : Lit × DataW H → Nat
  | (.string bytes, d) => bytes.length + uptoBulk d + 1
  | (_, d) => uptoBulk d + 1
 end
def uptoSmall : (H : Type) → List (DataW H) → Bool := fun _ ds => decide (uptoBulkAll ds ≤ 1048576)
def OpenSpec.upto (s : _root_.Go.ChangeSpec) : _root_.Go.OpenSpec := { _root_.Go.OpenSpec.ofChange s with cond := some uptoSmall }

/-- 'bindlelaw17.StonePuts', WHERE WHAT IT READS IS OF BULK AT MOST 1048576: true; the input reads as it did. -/
def stonePutsUptoRow : OpenClaim := { program := "ytakjpkhholgdbaadoor", sum := "b72aafafa0770a086b745499a8fb9cb930f351a163953254690038818520ea01", func := "bindle/bindlelaw17.StonePuts", spec := "stonePuts", inPlace := ["internal/bytealg.IndexByteString", "internal/bytealg.IndexString"], unfollowed := true, recurses := true, named := ["unicode/utf8.first", "unicode/utf8.acceptRanges", "internal/bytealg.MaxLen"], apart := false, laid := [("unicode/utf8.acceptRanges", laid_unicode_utf8_acceptRanges), ("unicode/utf8.first", laid_unicode_utf8_first)], narrowed := true }
def StonePutsUptoSaid : Prop := stonePutsUptoRow.holds Tryd.pinned (OpenSpec.upto stonePutsSpec)

/-- 'bindlelaw17.StoneTakes', WHERE WHAT IT READS IS OF BULK AT MOST 1048576: true; the input reads as it did. -/
def stoneTakesUptoRow : OpenClaim := { program := "ytakjpkhholgdbaadoor", sum := "b72aafafa0770a086b745499a8fb9cb930f351a163953254690038818520ea01", func := "bindle/bindlelaw17.StoneTakes", spec := "stoneTakes", inPlace := ["internal/bytealg.IndexByteString", "internal/bytealg.IndexString"], unfollowed := true, recurses := true, named := ["unicode/utf8.first", "unicode/utf8.acceptRanges", "internal/bytealg.MaxLen"], apart := false, laid := [("unicode/utf8.acceptRanges", laid_unicode_utf8_acceptRanges), ("unicode/utf8.first", laid_unicode_utf8_first)], narrowed := true }
def StoneTakesUptoSaid : Prop := stoneTakesUptoRow.holds Tryd.pinned (OpenSpec.upto stoneTakesSpec)

/-- 'bindlelaw17.StoneBack', WHERE WHAT IT READS IS OF BULK AT MOST 1048576: true; the input reads as it did. -/
def stoneBackUptoRow : OpenClaim := { program := "ytakjpkhholgdbaadoor", sum := "b72aafafa0770a086b745499a8fb9cb930f351a163953254690038818520ea01", func := "bindle/bindlelaw17.StoneBack", spec := "stoneBack", inPlace := ["internal/bytealg.IndexByteString", "internal/bytealg.IndexString"], unfollowed := true, recurses := true, named := ["unicode/utf8.first", "unicode/utf8.acceptRanges", "internal/bytealg.MaxLen", "bindle/local.widths"], apart := false, laid := [("unicode/utf8.acceptRanges", laid_unicode_utf8_acceptRanges), ("bindle/local.widths", laid_bindle_local_widths), ("unicode/utf8.first", laid_unicode_utf8_first)], narrowed := true }
def StoneBackUptoSaid : Prop := stoneBackUptoRow.holds Tryd.pinned (OpenSpec.upto stoneBackSpec)

/-- 'bindlelaw17.StoneFlips', WHERE WHAT IT READS IS OF BULK AT MOST 1048576: true; the input reads as it did. -/
def stoneFlipsUptoRow : OpenClaim := { program := "ytakjpkhholgdbaadoor", sum := "b72aafafa0770a086b745499a8fb9cb930f351a163953254690038818520ea01", func := "bindle/bindlelaw17.StoneFlips", spec := "stoneFlips", inPlace := ["internal/bytealg.IndexByteString", "internal/bytealg.IndexString"], unfollowed := true, recurses := true, named := ["unicode/utf8.first", "unicode/utf8.acceptRanges", "internal/bytealg.MaxLen"], apart := false, laid := [("unicode/utf8.acceptRanges", laid_unicode_utf8_acceptRanges), ("unicode/utf8.first", laid_unicode_utf8_first)], narrowed := true }
def StoneFlipsUptoSaid : Prop := stoneFlipsUptoRow.holds Tryd.pinned (OpenSpec.upto stoneFlipsSpec)

end Rows
end Go.Proofs.YtakjpkhholgdbaaDoor
