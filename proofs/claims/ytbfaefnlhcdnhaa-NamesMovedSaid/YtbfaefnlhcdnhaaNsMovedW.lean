/- Layer 5: the law NamesMoved, over what came in. -/
import Derived.Test.YtbfaefnlhcdnhaaNsMoved
namespace Go.Proofs.Ytbfaefnlhcdnhaa
open Go.RowKit

theorem moved5_in (a0 : Option Addr) (len0 cap0 : Nat) (cs1 : Array Value) (w : World) (w0 : Lies w (.slice op5Sh) [.slice a0 len0 cap0]) (w1 : Lies w (.cons .str (.cons .str (.cons (.int .i64) .nil))) cs1.toList) :
    Calls Try.prog 6 #[.slice a0 len0 cap0, .agg cs1] w fun e w' => e = .returned (.bool true) ∧ Below w.heap.size w w' := by
  obtain ⟨xs, hl, hc, hn⟩ := ops5_in w0
  obtain ⟨b, r2, h0, _, _, ⟨s1, rfl, _⟩, h2⟩ := w1
  obtain ⟨c, r3, rfl, _, _, ⟨s2, rfl, _⟩, h3⟩ := h2
  obtain ⟨d, r4, rfl, _, _, ⟨n, rfl, _⟩, h4⟩ := h3
  have h4' : r4 = [] := h4
  subst h4'
  have e : cs1 = #[.string s1, .string s2, .int .i64 n] := by
    apply Array.toList_inj.1
    rw [h0]
    rfl
  subst e
  exact moved5_any a0 len0 cap0 xs s1 s2 n w hl hc hn
end Go.Proofs.Ytbfaefnlhcdnhaa
