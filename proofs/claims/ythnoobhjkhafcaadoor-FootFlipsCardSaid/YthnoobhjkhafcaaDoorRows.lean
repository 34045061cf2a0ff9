/-
  NARROWER THAN 'FOR EVERY INPUT', by the rows' own cells (each row's printed sentence says how): EntryPuts: laid · EntrySames: laid · FootBack: laid · FootFlips: laid.
  DERIVED. THE GIVEN ROWS OF THIS SEAT. 4 by the template 'for every input the law returns true; each argument reads behind the call as it read before'; 0 by the template 'total and deterministic' (their statements: YthnoobhjkhafcaaDoorTotals.lean).
  GIVEN WITH THE SEED: the statements are not yours to turn. If you find one false, say at which input.
  Laid BY PROGRAM, IN A SANDBOX (cutbox-rows.mjs): the forced cells as the released guide's own fill.sh prints them over the translation 60d8b0cd47535101… (all of the seat's roots in one cut). By AI agents, Wed Nov 11 2026. No macro, syntax, notation, axiom, sorry.
-/
import Derived.Test.YthnoobhjkhafcaaDoorChecked
import GoSem.PinnedTables
import GoSem.Claim
import GoSem.ClaimJoined
import GoSem.ClaimMapViews
import Derived.JoinedTies
import Derived.KernelRfl
namespace Go.Proofs.YthnoobhjkhafcaaDoor
/- THE CELL 'sum', in the pinned program and in every row, IS THE sha256 OF THE DUMP (.gsa) THAT YthnoobhjkhafcaaDoorProg.lean LOADS. Nothing in Lean hashes anything: it is a label: what it is worth is what the hold of that sum in a sandbox is worth. -/
noncomputable def Tryd.pinned : Pinned := { name := "ythnoobhjkhafcaadoor", sum := "60d8b0cd475351010a31b44c5d7469e04de97419b7d0a928cf63fe104bab6c42", checked := Tryd.checked }
namespace Rows
def none {H : Type} : Left H := { results := [], args := [] }

/- WHAT THE LISTED PACKAGE-LEVEL VARIABLES READ AS WHEN THE CALL BEGINS. Each datum BY PROGRAM (the guide's laid-datum.mjs) off the statement by which the dump's own 'gosem.cut.vars' lays the variable. In a bare row this is a premise. The card (YthnoobhjkhafcaaDoorCards.lean) ties it to the program's text. -/
def laid_unicode_utf8_acceptRanges {H : Type} : DataW H := .agg [.agg [.lit (.int .u8 128), .lit (.int .u8 191)], .agg [.lit (.int .u8 160), .lit (.int .u8 191)], .agg [.lit (.int .u8 128), .lit (.int .u8 159)], .agg [.lit (.int .u8 144), .lit (.int .u8 191)], .agg [.lit (.int .u8 128), .lit (.int .u8 143)], .agg [.lit (.int .u8 0), .lit (.int .u8 0)], .agg [.lit (.int .u8 0), .lit (.int .u8 0)], .agg [.lit (.int .u8 0), .lit (.int .u8 0)], .agg [.lit (.int .u8 0), .lit (.int .u8 0)], .agg [.lit (.int .u8 0), .lit (.int .u8 0)], .agg [.lit (.int .u8 0), .lit (.int .u8 0)], .agg [.lit (.int .u8 0), .lit (.int .u8 0)], .agg [.lit (.int .u8 0), .lit (.int .u8 0)], .agg [.lit (.int .u8 0), .lit (.int .u8 0)], .agg [.lit (.int .u8 0), .lit (.int .u8 0)], .agg [.lit (.int .u8 0), .lit (.int .u8 0)]]
def laid_bindle_entry_widths {H : Type} : DataW H := .agg [.lit (.int .i64 1), .lit (.int .i64 1), .lit (.int .i64 4), .lit (.int .i64 4), .lit (.int .i64 4), .lit (.int .i64 4)]
/-- One of Go's own tables, pinned by name: the form's constant. -/
def laid_unicode_utf8_first : DataW Unit := Go.Pinned.utf8First

/-- 'bindlelaw19.EntryPuts': WHATEVER THE INPUT: true; the input reads as it did. -/
def entryPutsSpec : ChangeSpec := { name := "entryPuts", fn := fun _ => fun
  | [d] => { results := [.lit (.bool true)], args := [d] }
  | _ => none }
def entryPutsRow : OpenClaim := { program := "ythnoobhjkhafcaadoor", sum := "60d8b0cd475351010a31b44c5d7469e04de97419b7d0a928cf63fe104bab6c42", func := "bindle/bindlelaw19.EntryPuts", spec := "entryPuts", inPlace := ["internal/bytealg.IndexByteString", "internal/bytealg.IndexString"], unfollowed := true, recurses := true, named := ["bindle/entry.widths", "unicode/utf8.first", "unicode/utf8.acceptRanges", "internal/bytealg.MaxLen"], apart := false, laid := [("unicode/utf8.acceptRanges", laid_unicode_utf8_acceptRanges), ("bindle/entry.widths", laid_bindle_entry_widths), ("unicode/utf8.first", laid_unicode_utf8_first)] }
def EntryPutsSaid : Prop := entryPutsRow.holds Tryd.pinned (OpenSpec.ofChange entryPutsSpec)

/-- ITS FALSE NEIGHBOUR: 'it returns false'. Refute it at one input. -/
def entryPutsWrong : ChangeSpec := { name := "entryPuts", fn := fun _ => fun
  | [d] => { results := [.lit (.bool false)], args := [d] }
  | _ => none }
def EntryPutsWrongFalsely : Prop := entryPutsRow.holds Tryd.pinned (OpenSpec.ofChange entryPutsWrong)

/-- 'bindlelaw19.EntrySames': WHATEVER THE INPUT: true; the input reads as it did. -/
def entrySamesSpec : ChangeSpec := { name := "entrySames", fn := fun _ => fun
  | [d1, d2] => { results := [.lit (.bool true)], args := [d1, d2] }
  | _ => none }
def entrySamesRow : OpenClaim := { program := "ythnoobhjkhafcaadoor", sum := "60d8b0cd475351010a31b44c5d7469e04de97419b7d0a928cf63fe104bab6c42", func := "bindle/bindlelaw19.EntrySames", spec := "entrySames", inPlace := ["internal/bytealg.IndexByteString", "internal/bytealg.IndexString"], unfollowed := true, recurses := true, named := ["bindle/entry.widths", "unicode/utf8.first", "unicode/utf8.acceptRanges", "internal/bytealg.MaxLen"], apart := false, laid := [("unicode/utf8.acceptRanges", laid_unicode_utf8_acceptRanges), ("bindle/entry.widths", laid_bindle_entry_widths), ("unicode/utf8.first", laid_unicode_utf8_first)] }
def EntrySamesSaid : Prop := entrySamesRow.holds Tryd.pinned (OpenSpec.ofChange entrySamesSpec)

/-- ITS FALSE NEIGHBOUR: 'it returns false'. Refute it at one input. -/
def entrySamesWrong : ChangeSpec := { name := "entrySames", fn := fun _ => fun
  | [d1, d2] => { results := [.lit (.bool false)], args := [d1, d2] }
  | _ => none }
def EntrySamesWrongFalsely : Prop := entrySamesRow.holds Tryd.pinned (OpenSpec.ofChange entrySamesWrong)

/-- 'bindlelaw20.FootBack': WHATEVER THE INPUT: true; the input reads as it did. -/
def footBackSpec : ChangeSpec := { name := "footBack", fn := fun _ => fun
  | [d1, d2] => { results := [.lit (.bool true)], args := [d1, d2] }
  | _ => none }
def footBackRow : OpenClaim := { program := "ythnoobhjkhafcaadoor", sum := "60d8b0cd475351010a31b44c5d7469e04de97419b7d0a928cf63fe104bab6c42", func := "bindle/bindlelaw20.FootBack", spec := "footBack", inPlace := ["internal/bytealg.IndexByteString", "internal/bytealg.IndexString"], unfollowed := true, recurses := true, named := ["bindle/entry.widths", "unicode/utf8.first", "unicode/utf8.acceptRanges", "internal/bytealg.MaxLen"], apart := false, laid := [("unicode/utf8.acceptRanges", laid_unicode_utf8_acceptRanges), ("bindle/entry.widths", laid_bindle_entry_widths), ("unicode/utf8.first", laid_unicode_utf8_first)] }
def FootBackSaid : Prop := footBackRow.holds Tryd.pinned (OpenSpec.ofChange footBackSpec)

/-- ITS FALSE NEIGHBOUR: 'it returns false'. Refute it at one input. -/
def footBackWrong : ChangeSpec := { name := "footBack", fn := fun _ => fun
  | [d1, d2] => { results := [.lit (.bool false)], args := [d1, d2] }
  | _ => none }
def FootBackWrongFalsely : Prop := footBackRow.holds Tryd.pinned (OpenSpec.ofChange footBackWrong)

/-- 'bindlelaw20.FootFlips': WHATEVER THE INPUT: true; the input reads as it did. -/
def footFlipsSpec : ChangeSpec := { name := "footFlips", fn := fun _ => fun
  | [d1, d2, d3] => { results := [.lit (.bool true)], args := [d1, d2, d3] }
  | _ => none }
def footFlipsRow : OpenClaim := { program := "ythnoobhjkhafcaadoor", sum := "60d8b0cd475351010a31b44c5d7469e04de97419b7d0a928cf63fe104bab6c42", func := "bindle/bindlelaw20.FootFlips", spec := "footFlips", inPlace := ["internal/bytealg.IndexByteString", "internal/bytealg.IndexString"], unfollowed := true, recurses := true, named := ["bindle/entry.widths", "unicode/utf8.first", "unicode/utf8.acceptRanges", "internal/bytealg.MaxLen"], apart := false, laid := [("unicode/utf8.acceptRanges", laid_unicode_utf8_acceptRanges), ("bindle/entry.widths", laid_bindle_entry_widths), ("unicode/utf8.first", laid_unicode_utf8_first)] }
def FootFlipsSaid : Prop := footFlipsRow.holds Tryd.pinned (OpenSpec.ofChange footFlipsSpec)

/-- ITS FALSE NEIGHBOUR: 'it returns false'. Refute it at one input. -/
def footFlipsWrong : ChangeSpec := { name := "footFlips", fn := fun _ => fun
  | [d1, d2, d3] => { results := [.lit (.bool false)], args := [d1, d2, d3] }
  | _ => none }
def FootFlipsWrongFalsely : Prop := footFlipsRow.holds Tryd.pinned (OpenSpec.ofChange footFlipsWrong)

/- THE SECOND FORM. 'bulk': how many values and letters a reading holds, each counted each time it is reached (what is shared counts as often as it is met; a slice's spare places count too). A statement '..UptoSaid' is the law's where the arguments, and the package variables that the reading takes, are together of bulk at most 1048576: NARROWER than '..Said'. Prove '..Said' where nothing that the law and all that it calls make is longer than what came in: it says more and counts as full. Else prove '..UptoSaid'. A law counts once. -/
mutual
def uptoBulk {H : Type} : DataW H → Nat
  | .lit (.string bytes) => bytes.length + 1
  | .lit _ => 1
  | .nil => 1
  | .ptr d => uptoBulk d + 1
  | .slice elems spare => uptoBulkAll elems + uptoBulkAll spare + 1
  | .agg parts => uptoBulkAll parts + 1
  | .iface _ d => uptoBulk d + 1
  | .map entries => uptoBulkEntries entries + 1
  | .held _ => 1
def uptoBulkAll {H : Type} : List (DataW H) → Nat
  | [] => 0
  | d :: r => uptoBulk d + uptoBulkAll r
def uptoBulkEntries {H : Type} : List (Lit × DataW H) → Nat
  | [] => 0
  | x :: r => uptoBulkEntry x + uptoBulkEntries r
def uptoBulkEntry {H : Type} : Lit × DataW H → Nat
  | (.string bytes, d) => bytes.length + uptoBulk d + 1
  | (_, d) => uptoBulk d + 1
 end
def uptoSmall : (H : Type) → List (DataW H) → Bool := fun _ ds => decide (uptoBulkAll ds ≤ 1048576)
def OpenSpec.upto (s : _root_.Go.ChangeSpec) : _root_.Go.OpenSpec := { _root_.Go.OpenSpec.ofChange s with cond := some uptoSmall }

/-- 'bindlelaw19.EntryPuts', WHERE WHAT IT READS IS OF BULK AT MOST 1048576: true; the input reads as it did. -/
def entryPutsUptoRow : OpenClaim := { program := "ythnoobhjkhafcaadoor", sum := "60d8b0cd475351010a31b44c5d7469e04de97419b7d0a928cf63fe104bab6c42", func := "bindle/bindlelaw19.EntryPuts", spec := "entryPuts", inPlace := ["internal/bytealg.IndexByteString", "internal/bytealg.IndexString"], unfollowed := true, recurses := true, named := ["bindle/entry.widths", "unicode/utf8.first", "unicode/utf8.acceptRanges", "internal/bytealg.MaxLen"], apart := false, laid := [("unicode/utf8.acceptRanges", laid_unicode_utf8_acceptRanges), ("bindle/entry.widths", laid_bindle_entry_widths), ("unicode/utf8.first", laid_unicode_utf8_first)], narrowed := true }
def EntryPutsUptoSaid : Prop := entryPutsUptoRow.holds Tryd.pinned (OpenSpec.upto entryPutsSpec)

/-- 'bindlelaw19.EntrySames', WHERE WHAT IT READS IS OF BULK AT MOST 1048576: true; the input reads as it did. -/
def entrySamesUptoRow : OpenClaim := { program := "ythnoobhjkhafcaadoor", sum := "60d8b0cd475351010a31b44c5d7469e04de97419b7d0a928cf63fe104bab6c42", func := "bindle/bindlelaw19.EntrySames", spec := "entrySames", inPlace := ["internal/bytealg.IndexByteString", "internal/bytealg.IndexString"], unfollowed := true, recurses := true, named := ["bindle/entry.widths", "unicode/utf8.first", "unicode/utf8.acceptRanges", "internal/bytealg.MaxLen"], apart := false, laid := [("unicode/utf8.acceptRanges", laid_unicode_utf8_acceptRanges), ("bindle/entry.widths", laid_bindle_entry_widths), ("unicode/utf8.first", laid_unicode_utf8_first)], narrowed := true }
def EntrySamesUptoSaid : Prop := entrySamesUptoRow.holds Tryd.pinned (OpenSpec.upto entrySamesSpec)

/-- 'bindlelaw20.FootBack', WHERE WHAT IT READS IS OF BULK AT MOST 1048576: true; the input reads as it did. -/
def footBackUptoRow : OpenClaim := { program := "ythnoobhjkhafcaadoor", sum := "60d8b0cd475351010a31b44c5d7469e04de97419b7d0a928cf63fe104bab6c42", func := "bindle/bindlelaw20.FootBack", spec := "footBack", inPlace := ["internal/bytealg.IndexByteString", "internal/bytealg.IndexString"], unfollowed := true, recurses := true, named := ["bindle/entry.widths", "unicode/utf8.first", "unicode/utf8.acceptRanges", "internal/bytealg.MaxLen"], apart := false, laid := [("unicode/utf8.acceptRanges", laid_unicode_utf8_acceptRanges), ("bindle/entry.widths", laid_bindle_entry_widths), ("unicode/utf8.first", laid_unicode_utf8_first)], narrowed := true }
def FootBackUptoSaid : Prop := footBackUptoRow.holds Tryd.pinned (OpenSpec.upto footBackSpec)

/-- 'bindlelaw20.FootFlips', WHERE WHAT IT READS IS OF BULK AT MOST 1048576: true; the input reads as it did. -/
def footFlipsUptoRow : OpenClaim := { program := "ythnoobhjkhafcaadoor", sum := "60d8b0cd475351010a31b44c5d7469e04de97419b7d0a928cf63fe104bab6c42", func := "bindle/bindlelaw20.FootFlips", spec := "footFlips", inPlace := ["internal/bytealg.IndexByteString", "internal/bytealg.IndexString"], unfollowed := true, recurses := true, named := ["bindle/entry.widths", "unicode/utf8.first", "unicode/utf8.acceptRanges", "internal/bytealg.MaxLen"], apart := false, laid := [("unicode/utf8.acceptRanges", laid_unicode_utf8_acceptRanges), ("bindle/entry.widths", laid_bindle_entry_widths), ("unicode/utf8.first", laid_unicode_utf8_first)], narrowed := true }
def FootFlipsUptoSaid : Prop := footFlipsUptoRow.holds Tryd.pinned (OpenSpec.upto footFlipsSpec)

end Rows
end Go.Proofs.YthnoobhjkhafcaaDoor
