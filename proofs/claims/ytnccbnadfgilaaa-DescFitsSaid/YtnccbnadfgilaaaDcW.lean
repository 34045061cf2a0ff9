/- Layer 18: a foot that came in. -/
import Derived.Test.YtnccbnadfgilaaaOpens
import Derived.OpenShut
namespace Go.Proofs.Ytnccbnadfgilaaa
open Go.RowKit

theorem desc_lies {w : World} {cs : Array Value} (h : Lies w (.cons (.int .i64) (.cons (.int .i64) (.cons (.int .u32) .nil))) cs.toList) :
    ∃ n b x : Int, cs = #[.int .i64 n, .int .i64 b, .int .u32 x] ∧ 0 ≤ x ∧ x < 4294967296 := by
  obtain ⟨a, r1, e1, _, _, ⟨n, rfl, hn⟩, h1⟩ := h
  obtain ⟨b, r2, rfl, _, _, ⟨b', rfl, hb⟩, h2⟩ := h1
  obtain ⟨c, r3, rfl, _, _, ⟨x, rfl, hx⟩, h3⟩ := h2
  have h3' : r3 = [] := h3
  subst h3'
  have hxb := bounds_u32 hx
  refine ⟨n, b', x, ?_, by omega, by omega⟩
  apply Array.toList_inj.1
  rw [e1]
  rfl
end Go.Proofs.Ytnccbnadfgilaaa
