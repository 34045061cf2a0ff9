/- Layer 11: tokens that came in. -/
import Derived.Test.YtdlikfefndogbaaTxExps
namespace Go.Proofs.Ytdlikfefndogbaa
open Go.RowKit Go.Shelf

theorem tokens_in {w : World} {a : Option Addr} {len cap : Nat} (h : Lies w (.slice (.cons (.int .u8) (.cons (.int .i64) (.cons (.int .i64) .nil)))) [.slice a len cap]) :
    ∃ L : List Ti, L.length = len ∧ len ≤ 9223372036854775807 ∧ Cells w w.heap.size a (L.map tiC).flatten := by
  obtain ⟨rs, h1, h2, _, _, h4⟩ := rows_as tiC (fun _ => True) h (fun x _ hx => by
    obtain ⟨a1, r1, rfl, _, _, ⟨k, rfl, hk⟩, h1⟩ := hx
    obtain ⟨a2, r2, rfl, _, _, ⟨n, rfl, _⟩, h2⟩ := h1
    obtain ⟨a3, r3, rfl, _, _, ⟨d, rfl, _⟩, h3⟩ := h2
    have h3' : r3 = [] := h3
    subst h3'
    refine ⟨(UInt8.ofNat k.toNat, n, d), ?_, trivial⟩
    have := bounds_u8 hk
    have e : ((UInt8.ofNat k.toNat).toNat : Int) = k := by simp; omega
    show [Value.int .u8 k, Value.int .i64 n, Value.int .i64 d] = [Value.int .u8 ((UInt8.ofNat k.toNat).toNat : Int), Value.int .i64 n, Value.int .i64 d]
    rw [e])
  exact ⟨rs, h1, h2, h4⟩
end Go.Proofs.Ytdlikfefndogbaa
