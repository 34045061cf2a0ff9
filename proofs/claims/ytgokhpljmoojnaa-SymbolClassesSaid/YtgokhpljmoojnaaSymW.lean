/- Layer 12: classes, tokens and rows of symbols that came in. -/
import Derived.Test.YtgokhpljmoojnaaSymJa
import Derived.Test.YtgokhpljmoojnaaOpens
import Derived.OpenShut
namespace Go.Proofs.Ytgokhpljmoojnaa
open Go.RowKit

/-- A class, a token, a row, as it came in. -/
theorem class_lies {w : World} {cs : Array Value} (h : Lies w (.cons (.int .i64) (.cons (.int .i64) (.cons (.int .u32) .nil))) cs.toList) :
    ∃ n b x : Int, cs = #[.int .i64 n, .int .i64 b, .int .u32 x] ∧ 0 ≤ x ∧ x < 4294967296 := by
  obtain ⟨a, r1, e1, _, _, ⟨n, rfl, hn⟩, h1⟩ := h
  obtain ⟨b, r2, rfl, _, _, ⟨b', rfl, hb⟩, h2⟩ := h1
  obtain ⟨c, r3, rfl, _, _, ⟨x, rfl, hx⟩, h3⟩ := h2
  have h3' : r3 = [] := h3
  subst h3'
  have hxb := bounds_u32 hx
  refine ⟨n, b', x, ?_, by omega, by omega⟩
  apply Array.toList_inj.1
  rw [e1]
  rfl
theorem token_lies {w : World} {cs : Array Value} (h : Lies w (.cons (.int .u8) (.cons (.int .i64) (.cons (.int .i64) .nil))) cs.toList) :
    ∃ y l d : Int, cs = #[.int .u8 y, .int .i64 l, .int .i64 d] ∧ 0 ≤ y ∧ y < 256 := by
  obtain ⟨a, r1, e1, _, _, ⟨y, rfl, hy⟩, h1⟩ := h
  obtain ⟨b, r2, rfl, _, _, ⟨l, rfl, hl⟩, h2⟩ := h1
  obtain ⟨c, r3, rfl, _, _, ⟨d, rfl, hd⟩, h3⟩ := h2
  have h3' : r3 = [] := h3
  subst h3'
  have hyb := bounds_u8 hy
  refine ⟨y, l, d, ?_, by omega, by omega⟩
  apply Array.toList_inj.1
  rw [e1]
  rfl
theorem row_lies {w : World} {cs : Array Value} (h : Lies w (.cons (.cons (.int .i64) (.cons (.int .i64) (.cons (.int .u32) .nil))) (.cons (.cons (.int .i64) (.cons (.int .i64) (.cons (.int .u32) .nil))) (.cons .bool .nil))) cs.toList) :
    ∃ (n1 b1 x1 n2 b2 x2 : Int) (m : Bool), cs = #[.int .i64 n1, .int .i64 b1, .int .u32 x1, .int .i64 n2, .int .i64 b2, .int .u32 x2, .bool m] ∧ (0 ≤ x1 ∧ x1 < 4294967296) ∧ (0 ≤ x2 ∧ x2 < 4294967296) ∧ -9223372036854775808 ≤ n1 ∧ n1 ≤ 9223372036854775807 := by
  obtain ⟨f, r1, e1, _, _, hf, h1⟩ := h
  obtain ⟨s, r2, rfl, _, _, hs, h2⟩ := h1
  obtain ⟨t, r3, rfl, _, _, ⟨m, rfl⟩, h3⟩ := h2
  have h3' : r3 = [] := h3
  subst h3'
  obtain ⟨a, q1, rfl, _, _, ⟨n1, rfl, hn1⟩, g1⟩ := hf
  obtain ⟨b, q2, rfl, _, _, ⟨b1, rfl, _⟩, g2⟩ := g1
  obtain ⟨c, q3, rfl, _, _, ⟨x1, rfl, hx1⟩, g3⟩ := g2
  have g3' : q3 = [] := g3
  subst g3'
  obtain ⟨a, p1, rfl, _, _, ⟨n2, rfl, _⟩, k1⟩ := hs
  obtain ⟨b, p2, rfl, _, _, ⟨b2, rfl, _⟩, k2⟩ := k1
  obtain ⟨c, p3, rfl, _, _, ⟨x2, rfl, hx2⟩, k3⟩ := k2
  have k3' : p3 = [] := k3
  subst k3'
  have v1 := bounds_u32 hx1
  have v2 := bounds_u32 hx2
  have v3 := bounds_i64 hn1
  refine ⟨n1, b1, x1, n2, b2, x2, m, ?_, ⟨by omega, by omega⟩, ⟨by omega, by omega⟩, v3⟩
  apply Array.toList_inj.1
  rw [e1]
  rfl
end Go.Proofs.Ytgokhpljmoojnaa
