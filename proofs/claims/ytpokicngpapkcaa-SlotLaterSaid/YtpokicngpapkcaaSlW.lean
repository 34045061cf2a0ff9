/- Layer 21: a slot that came in. -/
import Derived.Test.YtpokicngpapkcaaOpens
import Derived.OpenShut
namespace Go.Proofs.Ytpokicngpapkcaa
open Go.RowKit

theorem slot_lies {w : World} {cs : Array Value} (h : Lies w (.cons (.int .i64) (.cons (.int .i64) (.cons (.int .i64) (.cons .bool .nil)))) cs.toList) :
    ∃ (q e d : Int) (c : Bool), cs = #[.int .i64 q, .int .i64 e, .int .i64 d, .bool c] := by
  obtain ⟨a, r1, e1, _, _, ⟨n, rfl, hn⟩, h1⟩ := h
  obtain ⟨b, r2, rfl, _, _, ⟨b', rfl, hb⟩, h2⟩ := h1
  obtain ⟨c, r3, rfl, _, _, ⟨x, rfl, hx⟩, h3⟩ := h2
  obtain ⟨d, r4, rfl, _, _, ⟨y, rfl⟩, h4⟩ := h3
  have h4' : r4 = [] := h4
  subst h4'
  refine ⟨n, b', x, y, ?_⟩
  apply Array.toList_inj.1
  rw [e1]
  rfl
end Go.Proofs.Ytpokicngpapkcaa
