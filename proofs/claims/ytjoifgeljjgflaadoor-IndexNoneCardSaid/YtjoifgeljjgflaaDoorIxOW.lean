/- Layer 24: a member that came in: IndexNone. -/
import Derived.Test.YtjoifgeljjgflaaDoorIxO
import Derived.Test.YtjoifgeljjgflaaDoorIxW
namespace Go.Proofs.YtjoifgeljjgflaaDoor
open Go.RowKit

theorem indexnone_in (cs : Array Value) (s : ByteArray) (w : World) (h2 : Lies w ixMemSh cs.toList) :
    Calls Tryd.prog 5 #[.agg cs, .string s] w fun e w' => e = .returned (.bool true) ∧ Below w.heap.size w w' := by
  obtain ⟨m, e2, _⟩ := ixMem_lies h2
  have e3 : cs = #[.string m.nm, .int .i64 m.at_, .int .i64 m.fr, .int .i64 m.ar, .int .i64 m.sz, .int .u32 m.su, .int .i64 m.me] := by
    apply Array.toList_inj.1
    rw [e2]
    rfl
  rw [e3]
  exact indexnone_any m s w
end Go.Proofs.YtjoifgeljjgflaaDoor
