/- Layer 22: what came in, and the table of widths. -/
import Derived.Test.YtaknladkodibaaaGreatDoorMgQ19350
import Derived.Test.YtaknladkodibaaaGreatDoorMgQ19312
import Derived.Lib.LaidU8
import Derived.MakeChecks
import Derived.OpenShut
namespace Go.Proofs.YtaknladkodibaaaGreatDoor
open Go.RowKit
abbrev memSh : Sh := .cons .str (.cons (.int .i64) (.cons (.int .i64) (.cons (.int .i64) (.cons (.int .i64) (.cons (.int .u32) (.cons (.int .i64) .nil))))))
theorem member_lies {w : World} {cs : Array Value} (h : Lies w memSh cs.toList) : ∃ (nm : ByteArray) (at_ fr ar sz su me : Int),cs = #[.string nm,.int .i64 at_,.int .i64 fr,.int .i64 ar,.int .i64 sz,.int .u32 su,.int .i64 me] ∧ nm.size ≤ maxLen ∧ -9223372036854775808 ≤ fr ∧ fr ≤ 9223372036854775807 := by
 obtain ⟨a,r1,e1,_,_,⟨nm,rfl,hn⟩,h1⟩ := h
 obtain ⟨b,r2,rfl,_,_,⟨at_,rfl,_⟩,h2⟩ := h1
 obtain ⟨c,r3,rfl,_,_,⟨fr,rfl,hf⟩,h3⟩ := h2
 obtain ⟨d,r4,rfl,_,_,⟨ar,rfl,_⟩,h4⟩ := h3
 obtain ⟨e,r5,rfl,_,_,⟨sz,rfl,_⟩,h5⟩ := h4
 obtain ⟨f,r6,rfl,_,_,⟨su,rfl,_⟩,h6⟩ := h5
 obtain ⟨g,r7,rfl,_,_,⟨me,rfl,_⟩,h7⟩ := h6
 have h7' : r7 = [] := h7
 subst h7'
 have hfb := bounds_i64 hf
 refine ⟨nm,at_,fr,ar,sz,su,me,?_,hn,hfb.1,hfb.2⟩
 apply Array.toList_inj.1
 rw [e1]
 rfl
theorem wid_of_reads {w : World} (h : Lib.VarReads Tryz.prog w "bindle/local.widths" (Lib.tabData .i64 [1, 1, 4, 4, 4])) : Wid w := by
 obtain ⟨g,t,cs,fuel,p,h1,h2,h3,h4⟩ := h
 have hg : Tryz.prog.globalNamed "bindle/local.widths" = some 0 := by kernel_rfl
 rw [hg] at h1
 injection h1 with h1
 subst h1
 have ht : (Tryz.prog.globals[0]?).map (·.type) = some 122 := by kernel_rfl
 rw [ht] at h2
 injection h2 with h2
 subst h2
 have hc := Lib.cells_of_tab Tryz.underlying122 Tryz.underlying3 (by kernel_rfl) (by kernel_rfl) h4
 have hT : Lib.TabIs Tryz.prog w "bindle/local.widths" .i64 [1, 1, 4, 4, 4] := by
  unfold Lib.TabIs
  rw [h3,← hc,Array.toArray_toList]
 have hcell : ∀ k,k < 5 → w.cell? ⟨0,k,none⟩ = some (.int .i64 (wid k : Nat)) := fun k hk => by
  have := hT.cell hg k hk
  rw [this]
  have : k = 0 ∨ k = 1 ∨ k = 2 ∨ k = 3 ∨ k = 4 := by omega
  rcases this with rfl | rfl | rfl | rfl | rfl <;> rfl
 refine ⟨?_,hcell⟩
 have h0 := hcell 0 (by omega)
 unfold World.cell? at h0
 by_cases hz : 0 < w.heap.size
 ·exact hz
 ·rw [Array.getElem?_eq_none (by omega)] at h0
  simp at h0
theorem cap_of_lies {w : World} {e : Sh} {a : Option Addr} {len cap : Nat} (h : Lies w (.slice e) [.slice a len cap]) : len ≤ cap := by
 obtain ⟨A,l',c',X,he,_,hlc,_⟩ := h
 injection he with h1 h2
 injection h1 with h3 h4 h5
 omega
def RcDsLaid (w : World) : Prop := laidMetH Tryz.prog Rows.recordDatasRow.laid w
theorem wid_of_RcDsLaid {w : World} (h : RcDsLaid w) : Wid w := by
 unfold RcDsLaid at h
 rw [MakeChecks.laidMetH_plain _ _ _ (by kernel_rfl)] at h
 exact wid_of_reads (Lib.laidMet.reads h (by first | exact .head _ | exact .tail _ (.head _) | exact .tail _ (.tail _ (.head _))))
end Go.Proofs.YtaknladkodibaaaGreatDoor
