/- Layer 19: members that came in, and the table of widths. -/
import Derived.Test.YthnoobhjkhafcaaDoorFtBack
import Derived.Test.YthnoobhjkhafcaaDoorOpens
import Derived.Test.YthnoobhjkhafcaaDoorLists
import Derived.Lib.LaidU8
import Derived.MakeChecks
import Derived.OpenShut
namespace Go.Proofs.YthnoobhjkhafcaaDoor
open Go.RowKit

abbrev memSh : Sh := .cons .str (.cons (.int .i64) (.cons (.int .i64) (.cons (.int .i64) (.cons (.int .i64) (.cons (.int .u32) (.cons (.int .i64) .nil))))))
theorem mem_lies {w : World} {x : List Value} (h : Lies w memSh x) : ∃ m : LM, x = m.cells ∧ m.Ok := by
  obtain ⟨a, r1, rfl, _, _, ⟨nm, rfl, hn⟩, h1⟩ := h
  obtain ⟨b, r2, rfl, _, _, ⟨at_, rfl, _⟩, h2⟩ := h1
  obtain ⟨c, r3, rfl, _, _, ⟨fr, rfl, hf⟩, h3⟩ := h2
  obtain ⟨d, r4, rfl, _, _, ⟨ar, rfl, _⟩, h4⟩ := h3
  obtain ⟨e, r5, rfl, _, _, ⟨sz, rfl, _⟩, h5⟩ := h4
  obtain ⟨f, r6, rfl, _, _, ⟨su, rfl, hs⟩, h6⟩ := h5
  obtain ⟨g, r7, rfl, _, _, ⟨me, rfl, _⟩, h7⟩ := h6
  have h7' : r7 = [] := h7
  subst h7'
  have hfb := bounds_i64 hf
  have hsb := bounds_u32 hs
  exact ⟨⟨nm, at_, fr, ar, sz, su, me⟩, rfl, hn, hfb.1, hfb.2, by show 0 ≤ su; omega, by show su < 4294967296; omega⟩
theorem mems_lie {w : World} {X : List (List Value)} (h : ∀ x ∈ X, Lies w memSh x) : ∃ ms : List LM, X = ms.map LM.cells ∧ ∀ m ∈ ms, m.Ok := by
  induction X with
  | nil => exact ⟨[], rfl, fun a ha => by cases ha⟩
  | cons x l ih =>
    obtain ⟨m, rfl, hm⟩ := mem_lies (h x (by simp))
    obtain ⟨ms, rfl, hms⟩ := ih (fun y hy => h y (by simp [hy]))
    exact ⟨m :: ms, rfl, fun a ha => by
      rcases List.mem_cons.1 ha with rfl | ha
      · exact hm
      · exact hms a ha⟩
/-- A slice of members that came in. -/
theorem mems_in {w : World} {cs : List Value} (h : Lies w (.slice memSh) cs) : ∃ (A : Option Addr) (len cap : Nat) (ms : List LM), cs = [.slice A len cap] ∧ len ≤ maxLen ∧ len ≤ cap ∧ ms.length = len ∧ (∀ m ∈ ms, m.Ok) ∧ Cells w w.heap.size A (ms.map LM.cells).flatten := by
  obtain ⟨A, len, cap, X, rfl, h1, h2, h3, h4, h5⟩ := h
  obtain ⟨ms, rfl, h6⟩ := mems_lie (fun x hx => (h4 x hx).2)
  exact ⟨A, len, cap, ms, rfl, h1, h2, by simpa using h3, h6, h5⟩
theorem cap_of_lies {w : World} {e : Sh} {a : Option Addr} {len cap : Nat} (h : Lies w (.slice e) [.slice a len cap]) : len ≤ cap := by
  obtain ⟨A, l', c', X, he, _, hlc, _⟩ := h
  injection he with h1 h2
  injection h1 with h3 h4 h5
  omega
theorem wide_of_reads {w : World} (h : Lib.VarReads Tryd.prog w "bindle/entry.widths" (Lib.tabData .i64 [1, 1, 4, 4, 4, 4])) : WidE w := by
  obtain ⟨g, t, cs, fuel, p, h1, h2, h3, h4⟩ := h
  have hg : Tryd.prog.globalNamed "bindle/entry.widths" = some 0 := by kernel_rfl
  rw [hg] at h1
  injection h1 with h1
  subst h1
  have ht : (Tryd.prog.globals[0]?).map (·.type) = some 52 := by kernel_rfl
  rw [ht] at h2
  injection h2 with h2
  subst h2
  have hc := Lib.cells_of_tab Tryd.underlying52 Tryd.underlying3 (by kernel_rfl) (by kernel_rfl) h4
  have hT : Lib.TabIs Tryd.prog w "bindle/entry.widths" .i64 [1, 1, 4, 4, 4, 4] := by
    unfold Lib.TabIs
    rw [h3, ← hc, Array.toArray_toList]
  have hcell : ∀ k, k < 6 → w.cell? ⟨0, k, none⟩ = some (.int .i64 (widE k : Nat)) := fun k hk => by
    have := hT.cell hg k hk
    rw [this]
    have : k = 0 ∨ k = 1 ∨ k = 2 ∨ k = 3 ∨ k = 4 ∨ k = 5 := by omega
    rcases this with rfl | rfl | rfl | rfl | rfl | rfl <;> rfl
  refine ⟨?_, hcell⟩
  have h0 := hcell 0 (by omega)
  unfold World.cell? at h0
  by_cases hz : 0 < w.heap.size
  · exact hz
  · rw [Array.getElem?_eq_none (by omega)] at h0
    simp at h0
/-- The listed tables lie as the program's text lays them. -/
def EnLaid (w : World) : Prop := laidMetH Tryd.prog Rows.footBackRow.laid w
theorem wide_of_laid {w : World} (h : EnLaid w) : WidE w := by
  unfold EnLaid at h
  rw [MakeChecks.laidMetH_plain _ _ _ (by kernel_rfl)] at h
  exact wide_of_reads (Lib.laidMet.reads h (by first | exact .head _ | exact .tail _ (.head _) | exact .tail _ (.tail _ (.head _)) | exact .tail _ (.tail _ (.tail _ (.head _)))))
end Go.Proofs.YthnoobhjkhafcaaDoor
