/- Layer 25, plainly: files that are alike stand alike; bytes in blocks of their own. -/
import Derived.Test.YtfnkbpcimbldbaaFiR
namespace Go.Proofs.Ytfnkbpcimbldbaa
open Go.RowKit

theorem has_key (l : List Fi) (s : ByteArray) : hasK Fi.nm l s = hasK Prod.fst (l.map Fi.key) s := by
  unfold hasK
  rw [List.any_map]
  rfl
theorem ris_key {l : List Fi} : Ris Fi.nm l ↔ Ris Prod.fst (l.map Fi.key) := by
  unfold Ris
  rw [List.pairwise_map]
  rfl
theorem pos_key (l : List Fi) (s : ByteArray) : posK Fi.nm l s = posK Prod.fst (l.map Fi.key) s := by
  unfold posK
  rw [List.takeWhile_map, List.length_map]
  rfl
theorem with_key (l : List Fi) (m : Fi) : (withK Fi.nm l m).map Fi.key = withK Prod.fst (l.map Fi.key) m.key := by
  unfold withK
  rw [List.map_append, List.map_cons, List.filter_map, List.filter_map]
  rfl
theorem out_key (l : List Fi) (s : ByteArray) : (outK Fi.nm l s).map Fi.key = outK Prod.fst (l.map Fi.key) s := by
  unfold outK
  rw [List.filter_map]
  rfl
theorem eqF_yes {fs gs : List Fi} (h : fs.map Fi.key = gs.map Fi.key) : eqF fs gs = true := decide_eq_true h
theorem key_get {l l' : List Fi} (h : l.map Fi.key = l'.map Fi.key) {k : Nat} {x : Fi} (hx : l[k]? = some x) : ∃ y, l'[k]? = some y ∧ x.nm = y.nm ∧ x.data = y.data := by
  have h1 : (l.map Fi.key)[k]? = some x.key := by rw [List.getElem?_map, hx]; rfl
  rw [h, List.getElem?_map] at h1
  cases hy : l'[k]? with
  | none => rw [hy] at h1; cases h1
  | some y =>
    rw [hy] at h1
    injection h1 with h1
    have h2 := Prod.mk.inj h1
    exact ⟨y, rfl, h2.1.symm, h2.2.symm⟩
/-- A file's bytes lie in a block of bytes. -/
def TxtB (w : World) (h : Fi) : Prop := ∃ b C fr, h.ad = some ⟨b, 0, none⟩ ∧ w.heap[b]? = some (.cells C 5 fr) ∧ ∀ (j : Nat) (u : Value), (byteCells h.data)[j]? = some u → C[j]? = some u
theorem TxtB.bytes {w : World} {h : Fi} (t : TxtB w h) : Bytes w w.heap.size h.ad h.data := fun _ => by
  obtain ⟨b, C, fr, e, hb, hc⟩ := t
  refine ⟨b, 0, e, (Array.getElem?_eq_some_iff.1 hb).1, fun j u hj => ?_⟩
  rw [Nat.zero_add]
  exact (cell_of_row _ _ _ _ _ _ hb).trans (hc j u hj)
theorem TxtB.keep {w w' : World} {row : Option Nat} {h : Fi} (t : TxtB w h) (hg : w.grownBy w' row) (hr : ∀ g, row = some g → ∃ C, w.heap[g]? = some (.cells C 33 (0, 0))) : TxtB w' h := by
  obtain ⟨b, C, fr, e, hb, hc⟩ := t
  have hlt := (Array.getElem?_eq_some_iff.1 hb).1
  refine ⟨b, C, fr, e, (hg.block b hlt (fun hbr => ?_)).trans hb, hc⟩
  obtain ⟨C', hC⟩ := hr b hbr.symm
  rw [hb] at hC
  injection hC with hC
  injection hC with _ h2 _
  exact absurd h2 (by decide)
theorem own_blk {w : World} {base n k : Nat} {e : TypeId} {v : Value} {xs : List Value} (h : w.ownsRow base e k v n xs) : ∀ g, v.ownBlock = some g → ∃ C, w.heap[g]? = some (.cells C e (0, 0)) := fun g hg => by
  rcases h.2 with ⟨rfl, _⟩ | ⟨g', cap, cur, rfl, _, hh, _⟩
  · cases hg
  · injection hg with hg
    subst hg
    exact ⟨cur, hh⟩
theorem toB_blk (w : World) (s : ByteArray) : ∃ (cap : Nat) (W : World) (C : Array Value) (fr : Nat × Nat), (convert 9 31 (.string s)).run Try.prog w = .ok (.slice (some ⟨w.heap.size, 0, none⟩) s.size cap) W ∧ Below w.heap.size w W ∧ W = w.drew.alloc (.cells C 5 fr) ∧ (∀ (j : Nat) (u : Value), (byteCells s.data.toList)[j]? = some u → C[j]? = some u) ∧ s.size ≤ cap := by
  refine ⟨_, _, _, _, run_bytes_of_string w 9 31 5 s Try.underlying9 Try.underlying31 Try.underlying5, (Below.refl _ w).drew.alloc (Nat.le_refl _) _, rfl, fun j u hj => ?_, grownCap_ge w _ _ _⟩
  have hlt := (List.getElem?_eq_some_iff.1 hj).1
  rw [byteCells_length] at hlt
  have hjs : j < s.data.size := by simpa using hlt
  rw [bytesRow_at s _ j hjs, ← hj]
  unfold byteCells
  rw [List.getElem?_map, List.getElem?_eq_getElem hlt]
  simp
end Go.Proofs.Ytfnkbpcimbldbaa
