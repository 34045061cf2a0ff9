/- Layer 25: the law ModelMaps, over what came in. -/
import Derived.Test.YtaneifmbjkolaaaDoorMdMap
namespace Go.Proofs.YtaneifmbjkolaaaDoor
open Go.RowKit

theorem mdmaps_in (a0 : Option Addr) (len0 cap0 : Nat) (a1 : Option Addr) (len1 cap1 : Nat) (cs2 : Array Value) (w : World) (w0 : Lies w (.slice fiSh) [.slice a0 len0 cap0]) (w1 : Lies w (.slice fiSh) [.slice a1 len1 cap1]) (w2 : Lies w fiSh cs2.toList) :
    Calls Tryd.prog 3 #[.slice a0 len0 cap0, .slice a1 len1 cap1, .agg cs2] w fun e w' => e = .returned (.bool true) ∧ Below w.heap.size w w' := by
  obtain ⟨fs, hl, _, hf, _⟩ := files_in w0
  obtain ⟨gs, hl2, _, hf2, _⟩ := files_in w1
  obtain ⟨x, hx, hxb, _⟩ := fi_lies w2
  have hc : cs2 = #[.string x.nm, .slice x.ad x.data.length x.cp] := by
    apply Array.toList_inj.1
    rw [hx]
    rfl
  subst hc
  exact mdmaps_any a0 a1 len0 cap0 len1 cap1 fs gs x w hl hl2 hf hf2 hxb
end Go.Proofs.YtaneifmbjkolaaaDoor
