/- Layer 38: the law PlanApplies, over what came in. -/
import Derived.Test.YtfnkbpcimbldbaaDoorMgQ14040
namespace Go.Proofs.YtfnkbpcimbldbaaDoor
open Go.RowKit

def xoSh : Sh := (Sh.int IntKind.i64).cons (Sh.str.cons ((Sh.int IntKind.u8).slice.cons ((Sh.int IntKind.i64).cons ((Sh.bool.slice.cons ((Sh.int IntKind.i64).cons ((Sh.int IntKind.u8).cons Sh.nil))).cons Sh.nil))))
theorem xo_lies {w : World} {x : List Value} (h : Lies w xoSh x) : ∃ o : XO, x = o.cells ∧ Bytes w w.heap.size o.ad o.data ∧ o.well := by
  obtain ⟨u0, u, rfl, _, _, ⟨kind, rfl, _⟩, hu⟩ := h
  obtain ⟨u1, u, rfl, _, _, ⟨nm, rfl, _⟩, hu⟩ := hu
  obtain ⟨u2, u, rfl, _, _, hb, hu⟩ := hu
  obtain ⟨u3, u, rfl, _, _, ⟨n3, rfl, _⟩, hu⟩ := hu
  obtain ⟨t, n8, rfl, _, _, hu, h8⟩ := hu
  obtain rfl : n8 = [] := h8
  obtain ⟨u4, u, rfl, _, _, ⟨A4, l4, c4, X4, rfl, _⟩, hu⟩ := hu
  obtain ⟨u5, u, rfl, _, _, ⟨n5, rfl, _⟩, hu⟩ := hu
  obtain ⟨u6, n7, rfl, _, _, ⟨n6, rfl, _⟩, h7⟩ := hu
  obtain rfl : n7 = [] := h7
  have hb2 := hb
  obtain ⟨A, l, c, X, rfl, _, _, _⟩ := hb2
  obtain ⟨bs, q1, _, q3⟩ := bytes_of_lies hb
  exact ⟨⟨kind, nm, bs, A, c, .int .i64 n3, .slice A4 l4 c4, .int .i64 n5, .int .u8 n6⟩, by unfold XO.cells; rw [q1]; rfl, q3, n3, A4, l4, c4, n5, n6, rfl, rfl, rfl, rfl⟩
theorem xos_in {w : World} {a : Option Addr} {len cap : Nat} (h : Lies w (.slice xoSh) [.slice a len cap]) : ∃ os : List XO, os.length = len ∧ Cells w w.heap.size a (xoCells os) ∧ ∀ o ∈ os, Bytes w w.heap.size o.ad o.data ∧ o.well := by
  obtain ⟨rs, h1, _, h3, _, h4⟩ := rows_as XO.cells (fun o => Bytes w w.heap.size o.ad o.data ∧ o.well) h (fun x _ hx => xo_lies hx)
  exact ⟨rs, h1, h4, h3⟩
theorem planApplies_in (a0 : Option Addr) (len0 cap0 : Nat) (a1 : Option Addr) (len1 cap1 : Nat) (w : World) (w0 : Lies w (.slice fiSh) [.slice a0 len0 cap0]) (w1 : Lies w (.slice xoSh) [.slice a1 len1 cap1]) :
    Calls Tryd.prog 4 #[.slice a0 len0 cap0, .slice a1 len1 cap1] w fun e w' => e = .returned (.bool true) ∧ Below w.heap.size w w' := by
  obtain ⟨fs, hl, _, hf, _⟩ := files_in w0
  obtain ⟨os, hl2, hc, hw⟩ := xos_in w1
  exact planApplies_any a0 a1 len0 cap0 len1 cap1 fs os w hl hl2 hf hc (fun o ho => (hw o ho).1) (fun o ho => (hw o ho).2)
end Go.Proofs.YtfnkbpcimbldbaaDoor
