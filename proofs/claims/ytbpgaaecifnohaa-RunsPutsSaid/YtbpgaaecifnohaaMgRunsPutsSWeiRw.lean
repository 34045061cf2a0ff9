/- Layer 7: rows in memory, and the one behind. -/
import Derived.Test.YtbpgaaecifnohaaMgRunsPuts11
import Derived.Test.YtbpgaaecifnohaaMgRunsPuts29
namespace Go.Proofs.Ytbpgaaecifnohaa
open Go.RowKit

theorem cells_of_ownK {w : World} {base : Nat} {e : TypeId} {k n : Nat} {A : Option Addr} {c : Nat} {xs : List Value} (h : w.ownsRow base e k (.slice A n c) n xs) : n ≤ c ∧ Cells w w.heap.size A xs := by
  rcases h.2 with ⟨h2, h3⟩ | ⟨g, cap, cur, hv, hg, hh, hnc, hcm, hcs, htake⟩
  · have h4 := h.1
    rw [h3, Nat.zero_mul] at h4
    rw [List.eq_nil_of_length_eq_zero h4]
    exact ⟨by omega, Cells.nil _ _ _⟩
  · simp only [Value.slice.injEq] at hv
    obtain ⟨rfl, _, rfl⟩ := hv
    refine ⟨hnc, fun _ => ⟨g, 0, rfl, (Array.getElem?_eq_some_iff.1 hh).1, fun j u hu => ?_⟩⟩
    rw [Nat.zero_add, cell_of_row _ _ _ _ _ _ hh]
    rw [← htake] at hu
    have hlt := (List.getElem?_eq_some_iff.1 hu).1
    rw [List.length_take] at hlt
    rw [List.getElem?_take_of_lt (by omega)] at hu
    simpa using hu
/-- A row in memory. -/
abbrev RowL (w : World) (k : Nat) (A : Option Addr) (n c : Nat) (xs : List WE) (cs : List Value) : Prop := Left w w.heap.size k A n c xs cs
theorem RowL.below {w w' : World} {k n c : Nat} {A : Option Addr} {xs : List WE} {cs : List Value} (h : RowL w k A n c xs cs) (hb : Below w.heap.size w w') : RowL w' k A n c xs cs :=
  ⟨h.len, h.cap, (h.mem.below hb (Nat.le_refl _)).more hb.size, h.row.below hb (Nat.le_refl _) hb.size⟩
theorem Left.up {w : World} {B k n c : Nat} {A : Option Addr} {xs : List WE} {cs : List Value} (h : Left w B k A n c xs cs) : Left w B (k + 1) A n c xs cs := ⟨h.len, h.cap, h.mem, h.row.up⟩
theorem Left.ups {w : World} {B n c : Nat} {A : Option Addr} {xs : List WE} {cs : List Value} (h : Left w B 0 A n c xs cs) : ∀ k, Left w B k A n c xs cs
  | 0 => h
  | k + 1 => (h.ups k).up
theorem El.keep {w w' : World} {B : Nat} (hk : ∀ b o wt s p q, At w b o (elC wt s p q) → At w' b o (elC wt s p q)) : ∀ {k : Nat} {x : WE} {cs : List Value}, El w B k x cs → El w' B k x cs
  | 0, _, _, h => h
  | k + 1, _, _, h => by
    rcases h with h | ⟨a, b, b1, o1, b2, o2, c, d, e1, e2, l1, l2, ha, hb, a1, a2⟩
    · exact .inl h
    · obtain ⟨_, _, _, hc⟩ := ha.len
      obtain ⟨_, _, _, hd⟩ := hb.len
      exact .inr ⟨a, b, b1, o1, b2, o2, c, d, e1, e2, l1, l2, ha.keep hk, hb.keep hk, by rw [hc] at a1 ⊢; exact hk _ _ _ _ _ _ a1, by rw [hd] at a2 ⊢; exact hk _ _ _ _ _ _ a2⟩
theorem RowE.keep {w w' : World} {B k : Nat} {xs : List WE} {cs : List Value} (hk : ∀ b o wt s p q, At w b o (elC wt s p q) → At w' b o (elC wt s p q)) (h : RowE w B k xs cs) : RowE w' B k xs cs := by
  obtain ⟨E, e1, e2, h⟩ := h
  exact ⟨E, e1, e2, fun e he => (h e he).keep hk⟩
/-- Blocks that bear elements stay. -/
theorem RowL.keep {w w' : World} {k n c : Nat} {A : Option Addr} {xs : List WE} {cs : List Value} (h : RowL w k A n c xs cs) (hs : w.heap.size ≤ w'.heap.size) (hk : ∀ b o wt s p q, At w b o (elC wt s p q) → w'.heap[b]? = w.heap[b]?) : RowL w' k A n c xs cs := by
  have hat : ∀ b o wt s p q, At w b o (elC wt s p q) → At w' b o (elC wt s p q) := fun b o wt s p q ha r u hu => (World.cell?_of_block (a := ⟨b, o + r, none⟩) (hk b o wt s p q ha)).trans (ha r u hu)
  refine ⟨h.len, h.cap, fun hp => ?_, (h.row.keep hat).below (Below.refl w'.heap.size w') hs hs⟩
  obtain ⟨b, o, e, hb, hc⟩ := h.mem hp
  refine ⟨b, o, e, by omega, fun j u hu => ?_⟩
  have hlen := h.row.len
  cases xs with
  | nil => simp at hlen; rw [hlen] at hp; simp at hp
  | cons x xs =>
    obtain ⟨c', d, rfl, hx, _⟩ := h.row.cons
    obtain ⟨s, p, q, rfl⟩ := hx.len
    have ha : At w b o (elC x.1 s p q) := fun r v hv => hc r v (by rw [List.getElem?_append_left (List.getElem?_eq_some_iff.1 hv).1]; exact hv)
    exact (World.cell?_of_block (a := ⟨b, o + j, none⟩) (hk b o _ _ _ _ ha)).trans (hc j u hu)
theorem pairs_row (A : Option Addr) (n c : Nat) (xs : List WE) (cs : List Value) (k : Nat) (w : World) (h : RowL w k A n c xs cs) (hm : n ≤ 1000) (hbd : ∀ x ∈ xs, x.1 ≤ 1125899906842624) :
    Calls Try.prog 79 #[.slice A n c] w fun e w' => ∃ A' n' c' cs', e = .returned (.slice A' n' c') ∧ n' ≤ 1000 ∧ RowL w' (k + 1) A' n' c' (prW xs) cs' ∧ Below w.heap.size w w' :=
  (pairs_any A n c xs cs k w.heap.size w h.len hm (Nat.le_refl _) h.mem h.row hbd).mono fun _ w' ⟨A', n', c', cs', he, hn, ho, hr, hb⟩ => by
    obtain ⟨h1, h2⟩ := cells_of_ownK ho
    exact ⟨A', n', c', cs', he, by omega, ⟨by rw [prW_len, h.len, hn], h1, h2, hr.below (Below.refl w.heap.size w') (Nat.le_refl _) hb.size⟩, hb⟩
theorem merge_row (A1 A2 : Option Addr) (l1 c1 l2 c2 : Nat) (xs1 xs2 : List WE) (cs1 cs2 : List Value) (k : Nat) (w : World) (h1 : RowL w k A1 l1 c1 xs1 cs1) (h2 : RowL w k A2 l2 c2 xs2 cs2) (hm1 : l1 ≤ 1000) (hm2 : l2 ≤ 1000) :
    Calls Try.prog 78 #[.slice A1 l1 c1, .slice A2 l2 c2] w fun e w' => ∃ A' n' c' cs', e = .returned (.slice A' n' c') ∧ RowL w' k A' n' c' (mgW xs1 xs2) cs' ∧ Below w.heap.size w w' :=
  (merge_any A1 A2 l1 c1 l2 c2 xs1 xs2 cs1 cs2 k w.heap.size w hm1 hm2 (Nat.le_refl _) h1 h2).mono fun _ w' ⟨A', n', c', cs', he, hn, ho, hr, hb⟩ => by
    obtain ⟨h3, h4⟩ := cells_of_ownK ho
    exact ⟨A', n', c', cs', he, ⟨by rw [mgW_len, h1.len, h2.len, hn], h3, h4, hr.below (Below.refl w.heap.size w') (Nat.le_refl _) hb.size⟩, hb⟩
end Go.Proofs.Ytbpgaaecifnohaa
