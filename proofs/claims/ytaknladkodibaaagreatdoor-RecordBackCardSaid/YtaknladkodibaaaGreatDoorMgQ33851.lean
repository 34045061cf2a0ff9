/- Layer 22: what came in, and the table of widths. -/
import Derived.Test.YtaknladkodibaaaGreatDoorMgQ33849
import Derived.Test.YtaknladkodibaaaGreatDoorMgQ33812
import Derived.Lib.LaidU8
import Derived.MakeChecks
import Derived.OpenShut
import Derived.Test.YtaknladkodibaaaGreatDoorMgQ33850
namespace Go.Proofs.YtaknladkodibaaaGreatDoor
open Go.RowKit
theorem wid_of_reads {w : World} (h : Lib.VarReads Tryz.prog w "bindle/local.widths" (Lib.tabData .i64 [1, 1, 4, 4, 4])) : Wid w := by
 obtain ⟨g,t,cs,fuel,p,h1,h2,h3,h4⟩:=h
 have hg : Tryz.prog.globalNamed "bindle/local.widths" = some 0 := by kernel_rfl
 rw [hg] at h1
 injection h1 with h1
 subst h1
 have ht:(Tryz.prog.globals[0]?).map (·.type) = some 122:=by kernel_rfl
 rw [ht] at h2
 injection h2 with h2
 subst h2
 have hc:=Lib.cells_of_tab Tryz.underlying122 Tryz.underlying3 (by kernel_rfl) (by kernel_rfl) h4
 have hT : Lib.TabIs Tryz.prog w "bindle/local.widths" .i64 [1, 1, 4, 4, 4] := by
  unfold Lib.TabIs
  rw [h3,← hc,Array.toArray_toList]
 have hcell:∀ k,k < 5→w.cell? ⟨0,k,none⟩ = some (.int .i64 (wid k:Nat)):=fun k hk => by
  have:=hT.cell hg k hk
  rw [this]
  have:k = 0 ∨ k = 1 ∨ k = 2 ∨ k = 3 ∨ k = 4:=by omega
  rcases this with rfl | rfl | rfl | rfl | rfl <;> rfl
 refine ⟨?_,hcell⟩
 have h0:=hcell 0 (by omega)
 unfold World.cell? at h0
 by_cases hz:0 < w.heap.size
 ·exact hz
 ·rw [Array.getElem?_eq_none (by omega)] at h0
  simp at h0
def RcBkLaid (w:World):Prop:=laidMetH Tryz.prog Rows.recordBackRow.laid w
theorem wid_of_RcBkLaid {w:World} (h:RcBkLaid w):Wid w:=by
 unfold RcBkLaid at h
 rw [MakeChecks.laidMetH_plain _ _ _ (by kernel_rfl)] at h
 exact wid_of_reads (Lib.laidMet.reads h (by first | exact .head _ | exact .tail _ (.head _) | exact .tail _ (.tail _ (.head _))))
abbrev whereSh:Sh:=.cons .str (.cons (.slice (.int .u8)) (.cons (.slice (.int .u8)) .nil))
theorem where_lies {w:World} {cs:Array Value} (h:Lies w whereSh cs.toList):∃ (nm:ByteArray) (A1 A2:Option Addr) (l1 c1 l2 c2:Nat) (H1 T1:List UInt8),cs = #[.string nm,.slice A1 l1 c1,.slice A2 l2 c2]∧H1.length = l1∧T1.length = l2∧Bytes w w.heap.size A1 H1∧Bytes w w.heap.size A2 T1:=by
 obtain ⟨a,r1,e1,_,_,⟨nm,rfl,hn⟩,h1⟩:=h
 obtain ⟨b,r2,rfl,_,_,h1b,h2⟩:=h1
 obtain ⟨c,r3,rfl,_,_,h2b,h3⟩:=h2
 have h3':r3 = []:=h3
 subst h3'
 have k1:=h1b
 have k2:=h2b
 obtain ⟨A1,l1,c1,X,rfl,_⟩:=k1
 obtain ⟨A2,l2,c2,Y,rfl,_⟩:=k2
 obtain ⟨H1,p1,_,p2⟩:=bytes_of_lies h1b
 obtain ⟨T1,q1,_,q2⟩:=bytes_of_lies h2b
 refine ⟨nm,A1,A2,l1,c1,l2,c2,H1,T1,?_,p1,q1,p2,q2⟩
 apply Array.toList_inj.1
 rw [e1]
 rfl
end Go.Proofs.YtaknladkodibaaaGreatDoor
