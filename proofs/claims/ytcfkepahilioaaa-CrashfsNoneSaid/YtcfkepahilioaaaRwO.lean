/- A row that may lie anywhere: its block, whole. -/
import Derived.Test.YtcfkepahilioaaaKpB
namespace Go.Proofs.Ytcfkepahilioaaa
open Go.RowKit

/-- A row that may lie anywhere: its block, whole. -/
def RowObj (w : World) (A : Option Addr) (xs : List Value) (bl : Nat) : Prop := ∃ o cur t fz, A = some ⟨bl, o, none⟩ ∧ w.heap[bl]? = some (.cells cur t fz) ∧ ∀ j u, xs[j]? = some u → cur[o + j]? = some u
theorem rowObj_of {w : World} {B : Nat} {A : Option Addr} {xs : List Value} (h : Cells w B A xs) (hp : 0 < xs.length) : ∃ bl, RowObj w A xs bl ∧ bl < B := by
  obtain ⟨b, o, e, hb, hc⟩ := h hp
  have h0 := hc 0 _ (List.getElem?_eq_getElem hp)
  unfold World.cell? at h0
  cases hh : w.heap[b]? with
  | none => simp [hh] at h0
  | some ob =>
    cases ob with
    | cells cur t fz =>
      refine ⟨b, ⟨o, cur, t, fz, e, hh, fun j u hj => ?_⟩, hb⟩
      have := hc j u hj
      unfold World.cell? at this
      simpa [hh] using this
    | _ => simp [hh] at h0
theorem RowObj.cells {w : World} {A : Option Addr} {xs : List Value} {bl : Nat} (h : RowObj w A xs bl) : Cells w (bl + 1) A xs := fun _ => by
  obtain ⟨o, cur, t, fz, rfl, hh, hc⟩ := h
  refine ⟨bl, o, rfl, Nat.lt_succ_self _, fun j u hj => ?_⟩
  unfold World.cell?
  simp [hh, hc j u hj]
theorem RowObj.lt {w : World} {A : Option Addr} {xs : List Value} {bl : Nat} (h : RowObj w A xs bl) : bl < w.heap.size := by
  obtain ⟨o, cur, t, fz, rfl, hh, hc⟩ := h
  exact (Array.getElem?_eq_some_iff.1 hh).1
theorem RowObj.to {w w' : World} {A : Option Addr} {xs : List Value} {bl : Nat} (h : RowObj w A xs bl) (hk : ∀ o, w.heap[bl]? = some o → o.isCells = true → w'.heap[bl]? = some o) : RowObj w' A xs bl := by
  obtain ⟨o, cur, t, fz, e, hh, hc⟩ := h
  exact ⟨o, cur, t, fz, e, hk _ hh rfl, hc⟩

theorem takeA_snoc {α : Type} {l : List α} {k : Nat} {x : α} (h : l[k]? = some x) : l.take (k + 1) = l.take k ++ [x] := by rw [List.take_add_one, h]; rfl
end Go.Proofs.Ytcfkepahilioaaa
