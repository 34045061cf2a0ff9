/- Layer 15: texts that came in: MemberSorts. -/
import Derived.Test.YtmcblagpindncaaDoorMbSo
namespace Go.Proofs.YtmcblagpindncaaDoor
open Go.RowKit

theorem text_flat (l : List (List UInt8)) : (l.map fun p => [Value.string ⟨p.toArray⟩]).flatten = textCells l := by
  induction l with
  | nil => rfl
  | cons p l ih => rw [List.map_cons, List.flatten_cons, ih]; rfl
theorem texts_in {w : World} {a : Option Addr} {len cap : Nat} (h : Lies w (.slice .str) [.slice a len cap]) : ∃ ss : List (List UInt8), ss.length = len ∧ len ≤ 9223372036854775807 ∧ Cells w w.heap.size a (textCells ss) := by
  obtain ⟨rs, h1, h2, _, _, h4⟩ := rows_as (fun p : List UInt8 => [Value.string ⟨p.toArray⟩]) (fun _ => True) h (fun x _ hx => by
    obtain ⟨s, rfl, _⟩ := hx
    exact ⟨s.data.toList, by cases s; simp, trivial⟩)
  rw [text_flat] at h4
  exact ⟨rs, h1, h2, h4⟩
theorem membersorts_in (A : Option Addr) (l c : Nat) (s : ByteArray) (w : World) (h : Lies w (.slice .str) [.slice A l c]) :
    Calls Tryd.prog 5 #[.slice A l c, .string s] w fun e w' => e = .returned (.bool true) ∧ Below w.heap.size w w' := by
  obtain ⟨ss, h1, _, h3⟩ := texts_in h
  exact membersorts_any A l c ss s w h1 h3
end Go.Proofs.YtmcblagpindncaaDoor
