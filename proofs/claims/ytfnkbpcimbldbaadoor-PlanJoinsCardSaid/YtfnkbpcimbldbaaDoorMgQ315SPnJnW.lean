/- Layer 38: the law PlanJoins, over what came in. -/
import Derived.Test.YtfnkbpcimbldbaaDoorMgQ31541
namespace Go.Proofs.YtfnkbpcimbldbaaDoor
open Go.RowKit

theorem cap_liesJ {w : World} {e : Sh} {a : Option Addr} {len cap : Nat} (h : Lies w (.slice e) [.slice a len cap]) : len ≤ cap := by
  obtain ⟨A, l', c', X, he, _, hlc, _⟩ := h
  injection he with h1 h2
  injection h1 with h3 h4 h5
  omega
theorem planJoins_in (a0 : Option Addr) (len0 cap0 : Nat) (a1 : Option Addr) (len1 cap1 : Nat) (a2 : Option Addr) (len2 cap2 : Nat) (w : World) (w0 : Lies w (.slice fiSh) [.slice a0 len0 cap0]) (w1 : Lies w (.slice fiSh) [.slice a1 len1 cap1]) (w2 : Lies w (.slice fiSh) [.slice a2 len2 cap2]) :
    Calls Tryd.prog 6 #[.slice a0 len0 cap0, .slice a1 len1 cap1, .slice a2 len2 cap2] w fun e w' => e = .returned (.bool true) ∧ Below w.heap.size w w' := by
  obtain ⟨fs, hl, _, hf, _⟩ := files_in w0
  obtain ⟨gs, hl2, _, hf2, _⟩ := files_in w1
  obtain ⟨hs, hl3, _, hf3, _⟩ := files_in w2
  exact planJoins_any a0 a1 a2 len0 cap0 len1 cap1 len2 cap2 fs gs hs w hl hl2 hl3 (cap_liesJ w0) (cap_liesJ w1) (cap_liesJ w2) hf hf2 hf3
end Go.Proofs.YtfnkbpcimbldbaaDoor
