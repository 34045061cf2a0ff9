/- Layer 15: texts that came in: MemberFolders. -/
import Derived.Test.YtmcblagpindncaaDoorMbFo
import Derived.Test.YtmcblagpindncaaDoorMbW
namespace Go.Proofs.YtmcblagpindncaaDoor
open Go.RowKit

theorem memberfolders_in (A : Option Addr) (l c : Nat) (s : ByteArray) (w : World) (h : Lies w (.slice .str) [.slice A l c]) :
    Calls Tryd.prog 4 #[.slice A l c, .string s] w fun e w' => e = .returned (.bool true) ∧ Below w.heap.size w w' := by
  obtain ⟨ss, h1, _, h3⟩ := texts_in h
  exact memberfolders_any A l c ss s w h1 h3
end Go.Proofs.YtmcblagpindncaaDoor
