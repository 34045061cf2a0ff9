/- Layer 5: the law NamesPlay, over what came in. -/
import Derived.Test.YtbfaefnlhcdnhaaNsPlay
import Derived.Test.YtbfaefnlhcdnhaaNsW
namespace Go.Proofs.Ytbfaefnlhcdnhaa
open Go.RowKit

theorem play5_in (a0 : Option Addr) (len0 cap0 : Nat) (w : World) (w0 : Lies w (.slice op5Sh) [.slice a0 len0 cap0]) : Calls Try.prog 3 #[.slice a0 len0 cap0] w fun e w' => e = .returned (.bool true) ∧ Below w.heap.size w w' := by
  obtain ⟨xs, hl, hc, hn⟩ := ops5_in w0
  exact play5_any a0 len0 cap0 xs w hl hc hn
end Go.Proofs.Ytbfaefnlhcdnhaa
