/-
  NARROWER THAN 'FOR EVERY INPUT', by the rows' own cells (each row's printed sentence says how): RecordPuts: laid · RecordTakes: laid · RecordDatas: laid · RecordBack: laid · RecordFlips: laid · SpaceRecords: laid.
  DERIVED. THE GIVEN ROWS OF THIS SEAT. 6 by the template 'for every input the law returns true; each argument reads behind the call as it read before'; 0 by the template 'total and deterministic' (their statements: YtaknladkodibaaaGreatDoorTotals.lean).
  GIVEN WITH THE SEED: the statements are not yours to turn. If you find one false, say at which input.
  Laid BY PROGRAM, IN A SANDBOX (cutbox-rows.mjs): the forced cells as the released guide's own fill.sh prints them over the translation 9e2f8a5f3221fb5d… (all of the seat's roots in one cut). By AI agents, Wed Nov 11 2026. No macro, syntax, notation, axiom, sorry.
-/
import Derived.Test.YtaknladkodibaaaGreatDoorChecked
import GoSem.PinnedTables
import GoSem.Claim
import GoSem.ClaimJoined
import GoSem.ClaimMapViews
import Derived.JoinedTies
import Derived.KernelRfl
namespace Go.Proofs.YtaknladkodibaaaGreatDoor
/- THE CELL 'sum', in the pinned program and in every row, IS THE sha256 OF THE DUMP (.gsa) THAT YtaknladkodibaaaGreatDoorProg.lean LOADS. Nothing in Lean hashes anything: it is a label: what it is worth is what the hold of that sum in a sandbox is worth. -/
noncomputable def Tryz.pinned : Pinned := { name := "ytaknladkodibaaagreatdoor", sum := "9e2f8a5f3221fb5d480e70677042d170673ab0ce1fd2a44650992d66b9c34191", checked := Tryz.checked }
namespace Rows
def none {H : Type} : Left H := { results := [], args := [] }

/- WHAT THE LISTED PACKAGE-LEVEL VARIABLES READ AS WHEN THE CALL BEGINS. Each datum BY PROGRAM (the guide's laid-datum.mjs) off the statement by which the dump's own 'gosem.cut.vars' lays the variable. In a bare row this is a premise. The card (YtaknladkodibaaaGreatDoorCards.lean) ties it to the program's text. -/
def laid_unicode_utf8_acceptRanges {H : Type} : DataW H := .agg [.agg [.lit (.int .u8 128), .lit (.int .u8 191)], .agg [.lit (.int .u8 160), .lit (.int .u8 191)], .agg [.lit (.int .u8 128), .lit (.int .u8 159)], .agg [.lit (.int .u8 144), .lit (.int .u8 191)], .agg [.lit (.int .u8 128), .lit (.int .u8 143)], .agg [.lit (.int .u8 0), .lit (.int .u8 0)], .agg [.lit (.int .u8 0), .lit (.int .u8 0)], .agg [.lit (.int .u8 0), .lit (.int .u8 0)], .agg [.lit (.int .u8 0), .lit (.int .u8 0)], .agg [.lit (.int .u8 0), .lit (.int .u8 0)], .agg [.lit (.int .u8 0), .lit (.int .u8 0)], .agg [.lit (.int .u8 0), .lit (.int .u8 0)], .agg [.lit (.int .u8 0), .lit (.int .u8 0)], .agg [.lit (.int .u8 0), .lit (.int .u8 0)], .agg [.lit (.int .u8 0), .lit (.int .u8 0)], .agg [.lit (.int .u8 0), .lit (.int .u8 0)]]
def laid_bindle_local_widths {H : Type} : DataW H := .agg [.lit (.int .i64 1), .lit (.int .i64 1), .lit (.int .i64 4), .lit (.int .i64 4), .lit (.int .i64 4)]
/-- One of Go's own tables, pinned by name: the form's constant. -/
def laid_unicode_utf8_first : DataW Unit := Go.Pinned.utf8First

/-- 'bindlelaw22.RecordPuts': WHATEVER THE INPUT: true; the input reads as it did. -/
def recordPutsSpec : ChangeSpec := { name := "recordPuts", fn := fun _ => fun
  | [d1, d2, d3] => { results := [.lit (.bool true)], args := [d1, d2, d3] }
  | _ => none }
def recordPutsRow : OpenClaim := { program := "ytaknladkodibaaagreatdoor", sum := "9e2f8a5f3221fb5d480e70677042d170673ab0ce1fd2a44650992d66b9c34191", func := "bindle/bindlelaw22.RecordPuts", spec := "recordPuts", inPlace := ["internal/bytealg.IndexByteString", "internal/bytealg.IndexString"], unfollowed := true, recurses := true, named := ["unicode/utf8.first", "unicode/utf8.acceptRanges", "internal/bytealg.MaxLen", "bindle/local.widths"], plainKeys := false, apart := false, laid := [("unicode/utf8.acceptRanges", laid_unicode_utf8_acceptRanges), ("bindle/local.widths", laid_bindle_local_widths), ("unicode/utf8.first", laid_unicode_utf8_first)] }
def RecordPutsSaid : Prop := recordPutsRow.holds Tryz.pinned (OpenSpec.ofChange recordPutsSpec)

/-- ITS FALSE NEIGHBOUR: 'it returns false'. Refute it at one input. -/
def recordPutsWrong : ChangeSpec := { name := "recordPuts", fn := fun _ => fun
  | [d1, d2, d3] => { results := [.lit (.bool false)], args := [d1, d2, d3] }
  | _ => none }
def RecordPutsWrongFalsely : Prop := recordPutsRow.holds Tryz.pinned (OpenSpec.ofChange recordPutsWrong)

/-- 'bindlelaw22.RecordTakes': WHATEVER THE INPUT: true; the input reads as it did. -/
def recordTakesSpec : ChangeSpec := { name := "recordTakes", fn := fun _ => fun
  | [d1, d2] => { results := [.lit (.bool true)], args := [d1, d2] }
  | _ => none }
def recordTakesRow : OpenClaim := { program := "ytaknladkodibaaagreatdoor", sum := "9e2f8a5f3221fb5d480e70677042d170673ab0ce1fd2a44650992d66b9c34191", func := "bindle/bindlelaw22.RecordTakes", spec := "recordTakes", inPlace := ["internal/bytealg.IndexByteString", "internal/bytealg.IndexString"], unfollowed := true, recurses := true, named := ["unicode/utf8.first", "unicode/utf8.acceptRanges", "internal/bytealg.MaxLen", "bindle/local.widths"], plainKeys := false, apart := false, laid := [("unicode/utf8.acceptRanges", laid_unicode_utf8_acceptRanges), ("bindle/local.widths", laid_bindle_local_widths), ("unicode/utf8.first", laid_unicode_utf8_first)] }
def RecordTakesSaid : Prop := recordTakesRow.holds Tryz.pinned (OpenSpec.ofChange recordTakesSpec)

/-- ITS FALSE NEIGHBOUR: 'it returns false'. Refute it at one input. -/
def recordTakesWrong : ChangeSpec := { name := "recordTakes", fn := fun _ => fun
  | [d1, d2] => { results := [.lit (.bool false)], args := [d1, d2] }
  | _ => none }
def RecordTakesWrongFalsely : Prop := recordTakesRow.holds Tryz.pinned (OpenSpec.ofChange recordTakesWrong)

/-- 'bindlelaw22.RecordDatas': WHATEVER THE INPUT: true; the input reads as it did. -/
def recordDatasSpec : ChangeSpec := { name := "recordDatas", fn := fun _ => fun
  | [d1, d2] => { results := [.lit (.bool true)], args := [d1, d2] }
  | _ => none }
def recordDatasRow : OpenClaim := { program := "ytaknladkodibaaagreatdoor", sum := "9e2f8a5f3221fb5d480e70677042d170673ab0ce1fd2a44650992d66b9c34191", func := "bindle/bindlelaw22.RecordDatas", spec := "recordDatas", inPlace := ["internal/bytealg.IndexByteString", "internal/bytealg.IndexString"], unfollowed := true, recurses := true, named := ["unicode/utf8.first", "unicode/utf8.acceptRanges", "internal/bytealg.MaxLen", "bindle/local.widths"], plainKeys := false, apart := false, laid := [("unicode/utf8.acceptRanges", laid_unicode_utf8_acceptRanges), ("bindle/local.widths", laid_bindle_local_widths), ("unicode/utf8.first", laid_unicode_utf8_first)] }
def RecordDatasSaid : Prop := recordDatasRow.holds Tryz.pinned (OpenSpec.ofChange recordDatasSpec)

/-- ITS FALSE NEIGHBOUR: 'it returns false'. Refute it at one input. -/
def recordDatasWrong : ChangeSpec := { name := "recordDatas", fn := fun _ => fun
  | [d1, d2] => { results := [.lit (.bool false)], args := [d1, d2] }
  | _ => none }
def RecordDatasWrongFalsely : Prop := recordDatasRow.holds Tryz.pinned (OpenSpec.ofChange recordDatasWrong)

/-- 'bindlelaw22.RecordBack': WHATEVER THE INPUT: true; the input reads as it did. -/
def recordBackSpec : ChangeSpec := { name := "recordBack", fn := fun _ => fun
  | [d1, d2, d3] => { results := [.lit (.bool true)], args := [d1, d2, d3] }
  | _ => none }
def recordBackRow : OpenClaim := { program := "ytaknladkodibaaagreatdoor", sum := "9e2f8a5f3221fb5d480e70677042d170673ab0ce1fd2a44650992d66b9c34191", func := "bindle/bindlelaw22.RecordBack", spec := "recordBack", inPlace := ["internal/bytealg.IndexByteString", "internal/bytealg.IndexString"], unfollowed := true, recurses := true, named := ["unicode/utf8.first", "unicode/utf8.acceptRanges", "internal/bytealg.MaxLen", "bindle/local.widths"], plainKeys := false, apart := false, laid := [("unicode/utf8.acceptRanges", laid_unicode_utf8_acceptRanges), ("bindle/local.widths", laid_bindle_local_widths), ("unicode/utf8.first", laid_unicode_utf8_first)] }
def RecordBackSaid : Prop := recordBackRow.holds Tryz.pinned (OpenSpec.ofChange recordBackSpec)

/-- ITS FALSE NEIGHBOUR: 'it returns false'. Refute it at one input. -/
def recordBackWrong : ChangeSpec := { name := "recordBack", fn := fun _ => fun
  | [d1, d2, d3] => { results := [.lit (.bool false)], args := [d1, d2, d3] }
  | _ => none }
def RecordBackWrongFalsely : Prop := recordBackRow.holds Tryz.pinned (OpenSpec.ofChange recordBackWrong)

/-- 'bindlelaw22.RecordFlips': WHATEVER THE INPUT: true; the input reads as it did. -/
def recordFlipsSpec : ChangeSpec := { name := "recordFlips", fn := fun _ => fun
  | [d1, d2, d3] => { results := [.lit (.bool true)], args := [d1, d2, d3] }
  | _ => none }
def recordFlipsRow : OpenClaim := { program := "ytaknladkodibaaagreatdoor", sum := "9e2f8a5f3221fb5d480e70677042d170673ab0ce1fd2a44650992d66b9c34191", func := "bindle/bindlelaw22.RecordFlips", spec := "recordFlips", inPlace := ["internal/bytealg.IndexByteString", "internal/bytealg.IndexString"], unfollowed := true, recurses := true, named := ["unicode/utf8.first", "unicode/utf8.acceptRanges", "internal/bytealg.MaxLen", "bindle/local.widths"], plainKeys := false, apart := false, laid := [("unicode/utf8.acceptRanges", laid_unicode_utf8_acceptRanges), ("bindle/local.widths", laid_bindle_local_widths), ("unicode/utf8.first", laid_unicode_utf8_first)] }
def RecordFlipsSaid : Prop := recordFlipsRow.holds Tryz.pinned (OpenSpec.ofChange recordFlipsSpec)

/-- ITS FALSE NEIGHBOUR: 'it returns false'. Refute it at one input. -/
def recordFlipsWrong : ChangeSpec := { name := "recordFlips", fn := fun _ => fun
  | [d1, d2, d3] => { results := [.lit (.bool false)], args := [d1, d2, d3] }
  | _ => none }
def RecordFlipsWrongFalsely : Prop := recordFlipsRow.holds Tryz.pinned (OpenSpec.ofChange recordFlipsWrong)

/-- 'bindlelaw26.SpaceRecords': WHATEVER THE INPUT: true; the input reads as it did. -/
def spaceRecordsSpec : ChangeSpec := { name := "spaceRecords", fn := fun _ => fun
  | [d1, d2, d3] => { results := [.lit (.bool true)], args := [d1, d2, d3] }
  | _ => none }
def spaceRecordsRow : OpenClaim := { program := "ytaknladkodibaaagreatdoor", sum := "9e2f8a5f3221fb5d480e70677042d170673ab0ce1fd2a44650992d66b9c34191", func := "bindle/bindlelaw26.SpaceRecords", spec := "spaceRecords", inPlace := ["internal/bytealg.IndexByteString", "internal/bytealg.IndexString"], unfollowed := true, recurses := true, named := ["unicode/utf8.first", "unicode/utf8.acceptRanges", "internal/bytealg.MaxLen", "bindle/local.widths"], plainKeys := false, apart := false, laid := [("unicode/utf8.acceptRanges", laid_unicode_utf8_acceptRanges), ("bindle/local.widths", laid_bindle_local_widths), ("unicode/utf8.first", laid_unicode_utf8_first)] }
def SpaceRecordsSaid : Prop := spaceRecordsRow.holds Tryz.pinned (OpenSpec.ofChange spaceRecordsSpec)

/-- ITS FALSE NEIGHBOUR: 'it returns false'. Refute it at one input. -/
def spaceRecordsWrong : ChangeSpec := { name := "spaceRecords", fn := fun _ => fun
  | [d1, d2, d3] => { results := [.lit (.bool false)], args := [d1, d2, d3] }
  | _ => none }
def SpaceRecordsWrongFalsely : Prop := spaceRecordsRow.holds Tryz.pinned (OpenSpec.ofChange spaceRecordsWrong)

/- THE SECOND FORM. 'bulk': how many values and letters a reading holds, each counted each time it is reached (what is shared counts as often as it is met; a slice's spare places count too). A statement '..UptoSaid' is the law's where the arguments, and the package variables that the reading takes, are together of bulk at most 1048576: NARROWER than '..Said'. Prove '..Said' where nothing that the law and all that it calls make is longer than what came in: it says more and counts as full. Else prove '..UptoSaid'. A law counts once. -/
mutual
def uptoBulk {H : Type} : DataW H → Nat
  | .lit (.string bytes) => bytes.length + 1
  | .lit _ => 1
  | .nil => 1
  | .ptr d => uptoBulk d + 1
  | .slice elems spare => uptoBulkAll elems + uptoBulkAll spare + 1
  | .agg parts => uptoBulkAll parts + 1
  | .iface _ d => uptoBulk d + 1
  | .map entries => uptoBulkEntries entries + 1
  | .held _ => 1
def uptoBulkAll {H : Type} : List (DataW H) → Nat
  | [] => 0
  | d :: r => uptoBulk d + uptoBulkAll r
def uptoBulkEntries {H : Type} : List (Lit × DataW H) → Nat
  | [] => 0
  | x :: r => uptoBulkEntry x + uptoBulkEntries r
def uptoBulkEntry {H : Type} : Lit × DataW H → Nat
  | (.string bytes, d) => bytes.length + uptoBulk d + 1
  | (_, d) => uptoBulk d + 1
 end
def uptoSmall : (H : Type) → List (DataW H) → Bool := fun _ ds => decide (uptoBulkAll ds ≤ 1048576)
def OpenSpec.upto (s : _root_.Go.ChangeSpec) : _root_.Go.OpenSpec := { _root_.Go.OpenSpec.ofChange s with cond := some uptoSmall }

/-- 'bindlelaw22.RecordPuts', WHERE WHAT IT READS IS OF BULK AT MOST 1048576: true; the input reads as it did. -/
def recordPutsUptoRow : OpenClaim := { program := "ytaknladkodibaaagreatdoor", sum := "9e2f8a5f3221fb5d480e70677042d170673ab0ce1fd2a44650992d66b9c34191", func := "bindle/bindlelaw22.RecordPuts", spec := "recordPuts", inPlace := ["internal/bytealg.IndexByteString", "internal/bytealg.IndexString"], unfollowed := true, recurses := true, named := ["unicode/utf8.first", "unicode/utf8.acceptRanges", "internal/bytealg.MaxLen", "bindle/local.widths"], plainKeys := false, apart := false, laid := [("unicode/utf8.acceptRanges", laid_unicode_utf8_acceptRanges), ("bindle/local.widths", laid_bindle_local_widths), ("unicode/utf8.first", laid_unicode_utf8_first)], narrowed := true }
def RecordPutsUptoSaid : Prop := recordPutsUptoRow.holds Tryz.pinned (OpenSpec.upto recordPutsSpec)

/-- 'bindlelaw22.RecordTakes', WHERE WHAT IT READS IS OF BULK AT MOST 1048576: true; the input reads as it did. -/
def recordTakesUptoRow : OpenClaim := { program := "ytaknladkodibaaagreatdoor", sum := "9e2f8a5f3221fb5d480e70677042d170673ab0ce1fd2a44650992d66b9c34191", func := "bindle/bindlelaw22.RecordTakes", spec := "recordTakes", inPlace := ["internal/bytealg.IndexByteString", "internal/bytealg.IndexString"], unfollowed := true, recurses := true, named := ["unicode/utf8.first", "unicode/utf8.acceptRanges", "internal/bytealg.MaxLen", "bindle/local.widths"], plainKeys := false, apart := false, laid := [("unicode/utf8.acceptRanges", laid_unicode_utf8_acceptRanges), ("bindle/local.widths", laid_bindle_local_widths), ("unicode/utf8.first", laid_unicode_utf8_first)], narrowed := true }
def RecordTakesUptoSaid : Prop := recordTakesUptoRow.holds Tryz.pinned (OpenSpec.upto recordTakesSpec)

/-- 'bindlelaw22.RecordDatas', WHERE WHAT IT READS IS OF BULK AT MOST 1048576: true; the input reads as it did. -/
def recordDatasUptoRow : OpenClaim := { program := "ytaknladkodibaaagreatdoor", sum := "9e2f8a5f3221fb5d480e70677042d170673ab0ce1fd2a44650992d66b9c34191", func := "bindle/bindlelaw22.RecordDatas", spec := "recordDatas", inPlace := ["internal/bytealg.IndexByteString", "internal/bytealg.IndexString"], unfollowed := true, recurses := true, named := ["unicode/utf8.first", "unicode/utf8.acceptRanges", "internal/bytealg.MaxLen", "bindle/local.widths"], plainKeys := false, apart := false, laid := [("unicode/utf8.acceptRanges", laid_unicode_utf8_acceptRanges), ("bindle/local.widths", laid_bindle_local_widths), ("unicode/utf8.first", laid_unicode_utf8_first)], narrowed := true }
def RecordDatasUptoSaid : Prop := recordDatasUptoRow.holds Tryz.pinned (OpenSpec.upto recordDatasSpec)

/-- 'bindlelaw22.RecordBack', WHERE WHAT IT READS IS OF BULK AT MOST 1048576: true; the input reads as it did. -/
def recordBackUptoRow : OpenClaim := { program := "ytaknladkodibaaagreatdoor", sum := "9e2f8a5f3221fb5d480e70677042d170673ab0ce1fd2a44650992d66b9c34191", func := "bindle/bindlelaw22.RecordBack", spec := "recordBack", inPlace := ["internal/bytealg.IndexByteString", "internal/bytealg.IndexString"], unfollowed := true, recurses := true, named := ["unicode/utf8.first", "unicode/utf8.acceptRanges", "internal/bytealg.MaxLen", "bindle/local.widths"], plainKeys := false, apart := false, laid := [("unicode/utf8.acceptRanges", laid_unicode_utf8_acceptRanges), ("bindle/local.widths", laid_bindle_local_widths), ("unicode/utf8.first", laid_unicode_utf8_first)], narrowed := true }
def RecordBackUptoSaid : Prop := recordBackUptoRow.holds Tryz.pinned (OpenSpec.upto recordBackSpec)

/-- 'bindlelaw22.RecordFlips', WHERE WHAT IT READS IS OF BULK AT MOST 1048576: true; the input reads as it did. -/
def recordFlipsUptoRow : OpenClaim := { program := "ytaknladkodibaaagreatdoor", sum := "9e2f8a5f3221fb5d480e70677042d170673ab0ce1fd2a44650992d66b9c34191", func := "bindle/bindlelaw22.RecordFlips", spec := "recordFlips", inPlace := ["internal/bytealg.IndexByteString", "internal/bytealg.IndexString"], unfollowed := true, recurses := true, named := ["unicode/utf8.first", "unicode/utf8.acceptRanges", "internal/bytealg.MaxLen", "bindle/local.widths"], plainKeys := false, apart := false, laid := [("unicode/utf8.acceptRanges", laid_unicode_utf8_acceptRanges), ("bindle/local.widths", laid_bindle_local_widths), ("unicode/utf8.first", laid_unicode_utf8_first)], narrowed := true }
def RecordFlipsUptoSaid : Prop := recordFlipsUptoRow.holds Tryz.pinned (OpenSpec.upto recordFlipsSpec)

/-- 'bindlelaw26.SpaceRecords', WHERE WHAT IT READS IS OF BULK AT MOST 1048576: true; the input reads as it did. -/
def spaceRecordsUptoRow : OpenClaim := { program := "ytaknladkodibaaagreatdoor", sum := "9e2f8a5f3221fb5d480e70677042d170673ab0ce1fd2a44650992d66b9c34191", func := "bindle/bindlelaw26.SpaceRecords", spec := "spaceRecords", inPlace := ["internal/bytealg.IndexByteString", "internal/bytealg.IndexString"], unfollowed := true, recurses := true, named := ["unicode/utf8.first", "unicode/utf8.acceptRanges", "internal/bytealg.MaxLen", "bindle/local.widths"], plainKeys := false, apart := false, laid := [("unicode/utf8.acceptRanges", laid_unicode_utf8_acceptRanges), ("bindle/local.widths", laid_bindle_local_widths), ("unicode/utf8.first", laid_unicode_utf8_first)], narrowed := true }
def SpaceRecordsUptoSaid : Prop := spaceRecordsUptoRow.holds Tryz.pinned (OpenSpec.upto spaceRecordsSpec)

end Rows
end Go.Proofs.YtaknladkodibaaaGreatDoor
