/- Layer 18: rows of bytes that came in. -/
import Derived.Test.YtnccbnadfgilaaaDcBack
import Derived.Test.YtnccbnadfgilaaaLists
import Derived.OpenShut
namespace Go.Proofs.Ytnccbnadfgilaaa
open Go.RowKit

theorem rowsIn_of_lies {w : World} {a : Option Addr} {len cap : Nat} (h : Lies w (.slice (.slice (.int .u8))) [.slice a len cap]) : ∃ ls : List PcV, ls.length = len ∧ len ≤ 9223372036854775807 ∧ RowsIn w a ls := by
  obtain ⟨rs, h1, h2, h3, _, h4⟩ := rows_as (fun x : PcV => [pcC x]) (fun x => Bytes w w.heap.size x.2.1 x.1 ∧ x.1.length ≤ x.2.2) h (fun x _ hx => by
    have hx2 := hx
    obtain ⟨A, l, c, X, he, _, hlc, _⟩ := hx2
    subst he
    obtain ⟨bs, q1, _, q3⟩ := bytes_of_lies hx
    refine ⟨(bs, A, c), ?_, q3, ?_⟩
    · show _ = [Value.slice A bs.length c]
      rw [q1]
    · show bs.length ≤ c
      omega)
  rw [flatten_single] at h4
  exact ⟨rs, h1, h2, h4, h3⟩
end Go.Proofs.Ytnccbnadfgilaaa
