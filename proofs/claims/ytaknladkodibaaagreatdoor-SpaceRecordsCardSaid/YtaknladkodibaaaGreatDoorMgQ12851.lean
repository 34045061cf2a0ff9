/- Layer 22: what came in, and the table of widths. -/
import Derived.Test.YtaknladkodibaaaGreatDoorMgQ12850
import Derived.Test.YtaknladkodibaaaGreatDoorMgQ12810
import Derived.Lib.LaidU8
import Derived.MakeChecks
import Derived.OpenShut
namespace Go.Proofs.YtaknladkodibaaaGreatDoor
open Go.RowKit

theorem wid_of_reads {w : World} (h : Lib.VarReads Tryz.prog w "bindle/local.widths" (Lib.tabData .i64 [1, 1, 4, 4, 4])) : Wid w := by
  obtain ⟨g, t, cs, fuel, p, h1, h2, h3, h4⟩ := h
  have hg : Tryz.prog.globalNamed "bindle/local.widths" = some 0 := by kernel_rfl
  rw [hg] at h1
  injection h1 with h1
  subst h1
  have ht : (Tryz.prog.globals[0]?).map (·.type) = some 122 := by kernel_rfl
  rw [ht] at h2
  injection h2 with h2
  subst h2
  have hc := Lib.cells_of_tab Tryz.underlying122 Tryz.underlying3 (by kernel_rfl) (by kernel_rfl) h4
  have hT : Lib.TabIs Tryz.prog w "bindle/local.widths" .i64 [1, 1, 4, 4, 4] := by
    unfold Lib.TabIs
    rw [h3, ← hc, Array.toArray_toList]
  have hcell : ∀ k, k < 5 → w.cell? ⟨0, k, none⟩ = some (.int .i64 (wid k : Nat)) := fun k hk => by
    have := hT.cell hg k hk
    rw [this]
    have : k = 0 ∨ k = 1 ∨ k = 2 ∨ k = 3 ∨ k = 4 := by omega
    rcases this with rfl | rfl | rfl | rfl | rfl <;> rfl
  refine ⟨?_, hcell⟩
  have h0 := hcell 0 (by omega)
  unfold World.cell? at h0
  by_cases hz : 0 < w.heap.size
  · exact hz
  · rw [Array.getElem?_eq_none (by omega)] at h0
    simp at h0
end Go.Proofs.YtaknladkodibaaaGreatDoor
/- Layer 22: the law, and the table of widths. -/
namespace Go.Proofs.YtaknladkodibaaaGreatDoor
open Go.RowKit

/-- The listed tables lie as the program's text lays them. -/
def SpRcLaid (w : World) : Prop := laidMetH Tryz.prog Rows.spaceRecordsRow.laid w
theorem wid_of_SpRcLaid {w : World} (h : SpRcLaid w) : Wid w := by
  unfold SpRcLaid at h
  rw [MakeChecks.laidMetH_plain _ _ _ (by kernel_rfl)] at h
  exact wid_of_reads (Lib.laidMet.reads h (by first | exact .head _ | exact .tail _ (.head _) | exact .tail _ (.tail _ (.head _))))
end Go.Proofs.YtaknladkodibaaaGreatDoor
