/- Layer 5: the law NamesCrash, over what came in. -/
import Derived.Test.YtbfaefnlhcdnhaaNsCrash
namespace Go.Proofs.Ytbfaefnlhcdnhaa
open Go.RowKit

theorem crash5l_in (a0 : Option Addr) (len0 cap0 : Nat) (a1 : Option Addr) (len1 cap1 : Nat) (w : World) (w0 : Lies w (.slice op5Sh) [.slice a0 len0 cap0]) (w1 : Lies w (.slice op5Sh) [.slice a1 len1 cap1]) :
    Calls Try.prog 5 #[.slice a0 len0 cap0, .slice a1 len1 cap1] w fun e w' => e = .returned (.bool true) ∧ Below w.heap.size w w' := by
  obtain ⟨xs, hl, hc, hn⟩ := ops5_in w0
  obtain ⟨ys, hl2, hc2, hn2⟩ := ops5_in w1
  exact crash5l_any a0 a1 len0 cap0 len1 cap1 xs ys w hl hc hn hl2 hc2 hn2
end Go.Proofs.Ytbfaefnlhcdnhaa
