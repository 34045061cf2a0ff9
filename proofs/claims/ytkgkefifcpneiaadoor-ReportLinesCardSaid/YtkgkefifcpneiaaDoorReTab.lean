/- Layer 33: the table of tens, where the program's tables lie as its text lays them. -/
import Derived.Test.YtkgkefifcpneiaaDoorReCt
import Derived.Lib.LaidU8
import Derived.MakeChecks
namespace Go.Proofs.YtkgkefifcpneiaaDoor
open Go.RowKit

theorem tab_of_reads {w : World} (h : Lib.VarReads Tryd.prog w "internal/strconv.uint64pow10" (Lib.tabData .u64 Lib.pow10Tab)) : Tab10 w := by
  obtain ⟨g, t, cs, fuel, p, h1, h2, h3, h4⟩ := h
  have hg : Tryd.prog.globalNamed "internal/strconv.uint64pow10" = some 3 := by kernel_rfl
  rw [hg] at h1
  injection h1 with h1
  subst h1
  have ht : (Tryd.prog.globals[3]?).map (·.type) = some 108 := by kernel_rfl
  rw [ht] at h2
  injection h2 with h2
  subst h2
  have hc := Lib.cells_of_tab Tryd.underlying108 Tryd.underlying95 (by kernel_rfl) (by kernel_rfl) h4
  show Lib.TabIs _ _ _ _ _
  unfold Lib.TabIs
  rw [h3, ← hc, Array.toArray_toList]
theorem pow10_laid : (Rows.laid_internal_strconv_uint64pow10 : DataW Unit) = Lib.tabData .u64 Lib.pow10Tab := by kernel_rfl
/-- The listed tables lie as the program's text lays them. -/
def CoLaid (w : World) : Prop := laidMetH Tryd.prog Rows.reportCountsRow.laid w
theorem tab_of_counts {w : World} (h : CoLaid w) : Tab10 w := by
  unfold CoLaid at h
  rw [MakeChecks.laidMetH_plain _ _ _ (by kernel_rfl)] at h
  have := Lib.laidMet.reads h (.tail _ (.tail _ (.head _)))
  rw [pow10_laid] at this
  exact tab_of_reads this
def LnLaid (w : World) : Prop := laidMetH Tryd.prog Rows.reportLinesRow.laid w
theorem tab_of_lines {w : World} (h : LnLaid w) : Tab10 w := by
  unfold LnLaid at h
  rw [MakeChecks.laidMetH_plain _ _ _ (by kernel_rfl)] at h
  have := Lib.laidMet.reads h (.tail _ (.tail _ (.head _)))
  rw [pow10_laid] at this
  exact tab_of_reads this
end Go.Proofs.YtkgkefifcpneiaaDoor
