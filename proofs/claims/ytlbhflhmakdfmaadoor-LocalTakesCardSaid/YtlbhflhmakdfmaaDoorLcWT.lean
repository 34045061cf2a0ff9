/- Layer 16: a head that came in, and the table of widths. -/
import Derived.Test.YtlbhflhmakdfmaaDoorLcTakes
import Derived.Test.YtlbhflhmakdfmaaDoorOpens
import Derived.Lib.LaidU8
import Derived.MakeChecks
import Derived.OpenShut
namespace Go.Proofs.YtlbhflhmakdfmaaDoor
open Go.RowKit

theorem head_lies {w : World} {cs : Array Value} (h : Lies w (.cons (.int .i64) (.cons .str (.cons (.int .i64) (.cons (.int .i64) (.cons (.int .u32) .nil))))) cs.toList) :
    ∃ (m : Int) (s : ByteArray) (sz ar su : Int), cs = #[.int .i64 m, .string s, .int .i64 sz, .int .i64 ar, .int .u32 su] ∧ s.size ≤ maxLen ∧ 0 ≤ su ∧ su < 4294967296 := by
  obtain ⟨a, r1, e1, _, _, ⟨m, rfl, _⟩, h1⟩ := h
  obtain ⟨b, r2, rfl, _, _, ⟨s, rfl, hs⟩, h2⟩ := h1
  obtain ⟨c, r3, rfl, _, _, ⟨sz, rfl, _⟩, h3⟩ := h2
  obtain ⟨d, r4, rfl, _, _, ⟨ar, rfl, _⟩, h4⟩ := h3
  obtain ⟨e, r5, rfl, _, _, ⟨su, rfl, hx⟩, h5⟩ := h4
  have h5' : r5 = [] := h5
  subst h5'
  have hxb := bounds_u32 hx
  refine ⟨m, s, sz, ar, su, ?_, hs, by omega, by omega⟩
  apply Array.toList_inj.1
  rw [e1]
  rfl
theorem wid_of_reads {w : World} (h : Lib.VarReads Tryd.prog w "bindle/local.widths" (Lib.tabData .i64 [1, 1, 4, 4, 4])) : Wid w := by
  obtain ⟨g, t, cs, fuel, p, h1, h2, h3, h4⟩ := h
  have hg : Tryd.prog.globalNamed "bindle/local.widths" = some 0 := by kernel_rfl
  rw [hg] at h1
  injection h1 with h1
  subst h1
  have ht : (Tryd.prog.globals[0]?).map (·.type) = some 47 := by kernel_rfl
  rw [ht] at h2
  injection h2 with h2
  subst h2
  have hc := Lib.cells_of_tab Tryd.underlying47 Tryd.underlying3 (by kernel_rfl) (by kernel_rfl) h4
  have hT : Lib.TabIs Tryd.prog w "bindle/local.widths" .i64 [1, 1, 4, 4, 4] := by
    unfold Lib.TabIs
    rw [h3, ← hc, Array.toArray_toList]
  have hcell : ∀ k, k < 5 → w.cell? ⟨0, k, none⟩ = some (.int .i64 (wid k : Nat)) := fun k hk => by
    have := hT.cell hg k hk
    rw [this]
    have : k = 0 ∨ k = 1 ∨ k = 2 ∨ k = 3 ∨ k = 4 := by omega
    rcases this with rfl | rfl | rfl | rfl | rfl <;> rfl
  refine ⟨?_, hcell⟩
  have h0 := hcell 0 (by omega)
  unfold World.cell? at h0
  by_cases hz : 0 < w.heap.size
  · exact hz
  · rw [Array.getElem?_eq_none (by omega)] at h0
    simp at h0
/-- The listed tables lie as the program's text lays them. -/
def LcLaid (w : World) : Prop := laidMetH Tryd.prog Rows.localTakesRow.laid w
theorem wid_of_laid {w : World} (h : LcLaid w) : Wid w := by
  unfold LcLaid at h
  rw [MakeChecks.laidMetH_plain _ _ _ (by kernel_rfl)] at h
  exact wid_of_reads (Lib.laidMet.reads h (by first | exact .head _ | exact .tail _ (.head _) | exact .tail _ (.tail _ (.head _))))
theorem cap_of_lies {w : World} {e : Sh} {a : Option Addr} {len cap : Nat} (h : Lies w (.slice e) [.slice a len cap]) : len ≤ cap := by
  obtain ⟨A, l', c', X, he, _, hlc, _⟩ := h
  injection he with h1 h2
  injection h1 with h3 h4 h5
  omega

end Go.Proofs.YtlbhflhmakdfmaaDoor
