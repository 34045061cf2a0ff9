/- Layer 24: members and a member that came in: IndexKeeps. -/
import Derived.Test.YtjoifgeljjgflaaDoorIxK
import Derived.Test.YtjoifgeljjgflaaDoorIxW
namespace Go.Proofs.YtjoifgeljjgflaaDoor
open Go.RowKit

theorem indexkeeps_in (A0 : Option Addr) (l c0 : Nat) (cs : Array Value) (s : ByteArray) (w : World) (h : Lies w (.slice ixMemSh) [.slice A0 l c0]) (h2 : Lies w ixMemSh cs.toList) :
    Calls Tryd.prog 6 #[.slice A0 l c0, .agg cs, .string s] w fun e w' => e = .returned (.bool true) ∧ Below w.heap.size w w' := by
  obtain ⟨A, len, cap, ms, e1, _, _, h1, h3, h4⟩ := ixMems_in h
  obtain ⟨m, e2, hm⟩ := ixMem_lies h2
  injection e1 with e1
  have e3 : cs = #[.string m.nm, .int .i64 m.at_, .int .i64 m.fr, .int .i64 m.ar, .int .i64 m.sz, .int .u32 m.su, .int .i64 m.me] := by
    apply Array.toList_inj.1
    rw [e2]
    rfl
  rw [e1, e3]
  exact indexkeeps_any A len cap ms m s w h1 h3 hm h4
end Go.Proofs.YtjoifgeljjgflaaDoor
