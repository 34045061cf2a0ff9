/- Layer 33: pairs that came in. -/
import Derived.Test.YtkgkefifcpneiaaDoorRePa
namespace Go.Proofs.YtkgkefifcpneiaaDoor
open Go.RowKit

def prSh : Sh :=
  ((Sh.int IntKind.i64).cons (Sh.str.cons ((Sh.int IntKind.u8).slice.cons ((Sh.int IntKind.i64).cons ((Sh.bool.slice.cons ((Sh.int IntKind.i64).cons ((Sh.int IntKind.u8).cons Sh.nil))).cons Sh.nil))))).cons
    (((Sh.int IntKind.i64).cons ((Sh.int IntKind.u8).slice.cons ((Sh.int IntKind.i64).cons (Sh.str.slice.cons ((Sh.str.cons ((Sh.int IntKind.u8).slice.cons Sh.nil)).slice.cons (Sh.bool.cons (Sh.bool.cons Sh.nil))))))).cons Sh.nil)
/-- What is known of a pair that came in. -/
def Pr.came (p : Pr) : Prop := p.one ∧ (Lit.int .i64 p.kind).wf = true ∧ (Lit.int .i64 p.e).wf = true ∧ p.dl ≤ 9223372036854775807 ∧
  ∃ sz na nl nc fa fl fc, p.a2 = .int .i64 sz ∧ p.a3 = .slice na nl nc ∧ p.a4 = .slice fa fl fc ∧ -9223372036854775808 ≤ sz ∧ sz ≤ 9223372036854775807 ∧ nl ≤ 9223372036854775807 ∧ fl ≤ 9223372036854775807
theorem pr_lies {w : World} {x : List Value} (h : Lies w prSh x) : ∃ p : Pr, x = p.cells ∧ p.came := by
  obtain ⟨u, v, rfl, _, _, hu, hv⟩ := h
  obtain ⟨v, n9, rfl, _, _, hv, h9⟩ := hv
  obtain rfl : n9 = [] := h9
  obtain ⟨u0, u, rfl, _, _, ⟨kind, rfl, hk⟩, hu⟩ := hu
  obtain ⟨u1, u, rfl, _, _, ⟨nm, rfl, _⟩, hu⟩ := hu
  obtain ⟨u2, u, rfl, _, _, ⟨A2, l2, c2, X2, rfl, _⟩, hu⟩ := hu
  obtain ⟨u3, u, rfl, _, _, ⟨n3, rfl, _⟩, hu⟩ := hu
  obtain ⟨t, n8, rfl, _, _, hu, h8⟩ := hu
  obtain rfl : n8 = [] := h8
  obtain ⟨u4, u, rfl, _, _, ⟨A4, l4, c4, X4, rfl, _⟩, hu⟩ := hu
  obtain ⟨u5, u, rfl, _, _, ⟨n5, rfl, _⟩, hu⟩ := hu
  obtain ⟨u6, n7, rfl, _, _, ⟨n6, rfl, _⟩, h7⟩ := hu
  obtain rfl : n7 = [] := h7
  obtain ⟨v0, v, rfl, _, _, ⟨e, rfl, he⟩, hv⟩ := hv
  obtain ⟨v1, v, rfl, _, _, ⟨A1, l1, c1, X1, rfl, hl1, _⟩, hv⟩ := hv
  obtain ⟨v2, v, rfl, _, _, ⟨m2, rfl, hm2⟩, hv⟩ := hv
  obtain ⟨v3, v, rfl, _, _, ⟨A3, l3, c3, X3, rfl, hl3, _⟩, hv⟩ := hv
  obtain ⟨v4, v, rfl, _, _, ⟨A5, l5, c5, X5, rfl, hl5, _⟩, hv⟩ := hv
  obtain ⟨v5, v, rfl, _, _, ⟨rf, rfl⟩, hv⟩ := hv
  obtain ⟨v6, n6', rfl, _, _, ⟨po, rfl⟩, h6⟩ := hv
  obtain rfl : n6' = [] := h6
  exact ⟨⟨kind, nm, .slice A2 l2 c2, .int .i64 n3, .slice A4 l4 c4, .int .i64 n5, .int .u8 n6, e, A1, l1, c1, .int .i64 m2, .slice A3 l3 c3, .slice A5 l5 c5, rf, po⟩, rfl, ⟨rfl, rfl, rfl, rfl, rfl, rfl, rfl, rfl⟩, hk, he, hl1, m2, A3, l3, c3, A5, l5, c5, rfl, rfl, rfl, (bounds_i64 hm2).1, (bounds_i64 hm2).2, hl3, hl5⟩
theorem prs_in {w : World} {a : Option Addr} {len cap : Nat} (h : Lies w (.slice prSh) [.slice a len cap]) : ∃ ps : List Pr, ps.length = len ∧ len ≤ 9223372036854775807 ∧ Cells w w.heap.size a (prCells ps) ∧ ∀ p ∈ ps, p.came := by
  obtain ⟨rs, h1, h2, h3, _, h4⟩ := rows_as Pr.cells Pr.came h (fun x _ hx => pr_lies hx)
  exact ⟨rs, h1, h2, h4, h3⟩
end Go.Proofs.YtkgkefifcpneiaaDoor
