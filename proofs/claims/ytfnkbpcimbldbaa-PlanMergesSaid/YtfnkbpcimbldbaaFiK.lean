/- Layer 25: files cloned: slices.Clone, model.clone. -/
import Derived.Test.YtfnkbpcimbldbaaFiG
namespace Go.Proofs.Ytfnkbpcimbldbaa
open Go.RowKit

theorem ownF_low {w : World} {b b' : Nat} {e : TypeId} {k n : Nat} {v : Value} {xs : List Value} (h : w.ownsRow b e k v n xs) (hb : b' ≤ b) : w.ownsRow b' e k v n xs := ⟨h.1, by
  rcases h.2 with h | ⟨g, cap, cur, h1, h2, h3⟩
  · exact .inl h
  · exact .inr ⟨g, cap, cur, h1, Nat.le_trans hb h2, h3⟩⟩
theorem cells_of_ownF {w : World} {base : Nat} {e : TypeId} {size : Nat} {A : Option Addr} {n c : Nat} {xs : List Value} (h : w.ownsRow base e size (.slice A n c) n xs) : Cells w w.heap.size A xs := fun hp => by
  obtain ⟨hlen, hor⟩ := h
  rcases hor with ⟨h1, h2⟩ | ⟨g, cap, cur, hv, _, hg, _, _, hcells⟩
  · subst h2; rw [Nat.zero_mul] at hlen; omega
  · injection hv with ha _ _
    refine ⟨g, 0, ha, (Array.getElem?_eq_some_iff.1 hg).1, fun j u hj => ?_⟩
    rw [Nat.zero_add, cell_of_row w g j _ _ _ hg]
    obtain ⟨_, ht⟩ := hcells
    rw [← ht, List.getElem?_take] at hj
    split at hj
    · rw [← Array.getElem?_toList]; exact hj
    · cases hj
theorem own_setF {w : World} {base g k n c j : Nat} {e : TypeId} {xs : List Value} {u : Value} (h : w.ownsRow base e k (.slice (some ⟨g, 0, none⟩) n c) n xs) : (w.setCell ⟨g, j, none⟩ u).ownsRow base e k (.slice (some ⟨g, 0, none⟩) n c) n (xs.set j u) := by
  rcases h.2 with ⟨h2, _⟩ | ⟨g', cap, cur, hv, hg, hh, hnc, hcm, hcs, htake⟩
  · cases h2
  · simp only [Value.slice.injEq, Option.some.injEq, Addr.mk.injEq] at hv
    obtain ⟨⟨rfl, _, _⟩, _, rfl⟩ := hv
    refine ⟨by rw [List.length_set]; exact h.1, .inr ⟨g, c, cur.setIfInBounds j u, rfl, hg, heap_setCell_same w g j _ _ _ hh, hnc, hcm, by simp [hcs], ?_⟩⟩
    rw [Array.toList_setIfInBounds, List.take_set, htake]
theorem own_freeF {w : World} {base g k n c : Nat} {e : TypeId} {xs : List Value} (h : w.ownsRow base e k (.slice (some ⟨g, 0, none⟩) n c) n xs) (j : Nat) : w.frozen? ⟨g, j, none⟩ = false := by
  rcases h.2 with ⟨h2, _⟩ | ⟨g', cap, cur, hv, hg, hh, _⟩
  · cases h2
  · simp only [Value.slice.injEq, Option.some.injEq, Addr.mk.injEq] at hv
    obtain ⟨⟨rfl, _, _⟩, _, rfl⟩ := hv
    simp [World.frozen?, hh]
theorem fiCells_one (fs : List Fi) : ∀ u ∈ fiCells fs, u.oneCell' = true := fun u hu => by
  unfold fiCells at hu
  rw [List.mem_flatten] at hu
  obtain ⟨l, hl, hul⟩ := hu
  obtain ⟨f, _, rfl⟩ := List.mem_map.1 hl
  unfold Fi.cells at hul
  simp only [List.mem_cons, List.not_mem_nil, or_false] at hul
  rcases hul with rfl | rfl <;> rfl
theorem fiCells_app (l m : List Fi) : fiCells (l ++ m) = fiCells l ++ fiCells m := by unfold fiCells; simp
theorem fiCells_set (gs rest : List Fi) (x g : Fi) (h : g.nm = x.nm) : (fiCells (gs ++ x :: rest)).set (gs.length * 2 + 1) (.slice g.ad g.data.length g.cp) = fiCells (gs ++ g :: rest) := by
  rw [fiCells_app, fiCells_app, List.set_append_right _ _ (by rw [fi_len]; omega), fi_len]
  congr 1
  rw [show gs.length * 2 + 1 - gs.length * 2 = 1 by omega]
  show (List.flatten (List.map Fi.cells (x :: rest))).set 1 _ = List.flatten (List.map Fi.cells (g :: rest))
  rw [List.map_cons, List.map_cons, List.flatten_cons, List.flatten_cons]
  unfold Fi.cells
  rw [h]
  rfl
/-- Files whose bytes are the call's own, behind their row. -/
def OwnFs (w : World) (A : Option Addr) (gs : List Fi) : Prop := ∀ g ∈ gs, ∀ b, A = some ⟨b, 0, none⟩ → w.ownsRow (b + 1) 5 1 (.slice g.ad g.data.length g.cp) g.data.length (byteCells g.data)
end Go.Proofs.Ytfnkbpcimbldbaa
