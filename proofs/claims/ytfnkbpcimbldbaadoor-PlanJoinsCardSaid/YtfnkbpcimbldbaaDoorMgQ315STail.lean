/- Rows of bytes of the call's own that may bear the mark of '[]byte(text)' behind their last cell: append to them, of a slice or a text. -/
import Derived.Test.YtfnkbpcimbldbaaDoorMgQ31508
import Derived.Test.YtfnkbpcimbldbaaDoorMgQ315SBytesIn
import Derived.Laws.IdiomStrings
import Derived.Lib.FrozenHead
namespace Go.Proofs.YtfnkbpcimbldbaaDoor
open Go.RowKit

/-- A block of cells. -/
def Box (w : World) (g : Nat) (cs : Array Value) (t : TypeId) : Prop := w.heap[g]? = some (.cells cs t (0, 0))
theorem Box.cell {w : World} {g : Nat} {cs : Array Value} {t : TypeId} (h : Box w g cs t) (i : Nat) : w.cell? ⟨g, i, none⟩ = cs[i]? := cell_of_row w g i _ _ _ h
theorem Box.lt {w : World} {g : Nat} {cs : Array Value} {t : TypeId} (h : Box w g cs t) : g < w.heap.size := (Array.getElem?_eq_some_iff.1 h).1
theorem Box.below {w w' : World} {g B : Nat} {cs : Array Value} {t : TypeId} (h : Box w g cs t) (hb : Below B w w') (hg : g < B) : Box w' g cs t := (hb.block g hg).trans h
theorem Box.alloc {w : World} {g : Nat} {cs : Array Value} {t : TypeId} (h : Box w g cs t) (o : Obj) : Box (w.alloc o) g cs t := h.below ((Below.refl _ w).alloc (Nat.le_refl _) o) h.lt
theorem Box.drewN {w : World} {g : Nat} {cs : Array Value} {t : TypeId} (h : Box w g cs t) (n : Nat) : Box (w.drewN n) g cs t := h
theorem Box.mod {S : Nat → Prop} {w w' : World} {g : Nat} {cs : Array Value} {t : TypeId} (h : Box w g cs t) (hm : Mod S w w') (hn : ¬ S g) : Box w' g cs t := hm.keep h hn

/-- A slice of the call's own, one cell an element; of its row no cell is frozen. -/
def OwnT (w : World) (base : Nat) (e : TypeId) (v : Value) (n : Nat) (xs : List Value) : Prop :=
  xs.length = n ∧ ((v = .slice none 0 0 ∧ n = 0) ∨ ∃ g cap cur fz, v = .slice (some ⟨g, 0, none⟩) n cap ∧ base ≤ g ∧ w.heap[g]? = some (.cells cur e fz) ∧ (fz.2 = 0 ∨ cur.size ≤ fz.1) ∧ n ≤ cap ∧ cap ≤ maxLen ∧ cur.size = cap ∧ cur.toList.take n = xs)

section
variable {w w1 w2 : World} {base : Nat} {e : TypeId} {v v1 v2 : Value} {n m : Nat} {xs ys : List Value}
theorem OwnT.of (h : w.ownsRow base e 1 v n xs) : OwnT w base e v n xs := by
  refine ⟨by rw [h.1, Nat.mul_one], ?_⟩
  rcases h.2 with h2 | ⟨g, cap, cur, h1, h2, h3, h4, h5, h6, h7⟩
  · exact .inl h2
  · exact .inr ⟨g, cap, cur, (0, 0), h1, h2, h3, .inl rfl, h4, h5, by rw [h6, Nat.mul_one], by rw [Nat.mul_one] at h7; exact h7⟩
theorem OwnT.form (h : OwnT w base e v n xs) : ∃ A c, v = .slice A n c := by
  rcases h.2 with ⟨rfl, rfl⟩ | ⟨g, cap, cur, fz, rfl, _⟩
  · exact ⟨none, 0, rfl⟩
  · exact ⟨_, _, rfl⟩
theorem OwnT.lt (h : OwnT w base e v n xs) : ∀ k, v.ownBlock = some k → base ≤ k ∧ k < w.heap.size := by
  rcases h.2 with ⟨rfl, rfl⟩ | ⟨g, cap, cur, fz, rfl, hb, hg, _⟩
  · intro k hk; cases hk
  · intro k hk
    injection hk with hk
    subst hk
    exact ⟨hb, (Array.getElem?_eq_some_iff.1 hg).1⟩
theorem OwnT.keep {S : Nat → Prop} (h : OwnT w base e v n xs) (hm : Mod S w w1) (hd : ∀ k, ownS v k → ¬ S k) : OwnT w1 base e v n xs := by
  obtain ⟨h1, h2⟩ := h
  refine ⟨h1, ?_⟩
  rcases h2 with h2 | ⟨g, cap, cur, fz, rfl, hg, hh, h3⟩
  · exact .inl h2
  · exact .inr ⟨g, cap, cur, fz, rfl, hg, hm.keep hh (hd g rfl), h3⟩
theorem OwnT.alloc (h : OwnT w base e v n xs) (o : Obj) : OwnT (w.alloc o) base e v n xs := h.keep ((Mod.refl noB w).alloc o) (fun _ _ h => h)
theorem OwnT.drew (h : OwnT w base e v n xs) : OwnT w.drew base e v n xs := h
theorem OwnT.drewN (h : OwnT w base e v n xs) (k : Nat) : OwnT (w.drewN k) base e v n xs := h
theorem OwnT.le {base' : Nat} (h : OwnT w base e v n xs) (hb : base' ≤ base) : OwnT w base' e v n xs := by
  obtain ⟨h1, h2⟩ := h
  refine ⟨h1, ?_⟩
  rcases h2 with h2 | ⟨g, cap, cur, fz, rfl, hg, h3⟩
  · exact .inl h2
  · exact .inr ⟨g, cap, cur, fz, rfl, Nat.le_trans hb hg, h3⟩
/-- What the call owns reads so. -/
theorem OwnT.cells {A : Option Addr} {c : Nat} (h : OwnT w base e (.slice A n c) n xs) : Cells w w.heap.size A xs := fun hp => by
  obtain ⟨h1, h2⟩ := h
  rcases h2 with ⟨_, rfl⟩ | ⟨g, cap, cur, fz, hv, hg, hh, hfz, hnc, hcm, hcs, htake⟩
  · omega
  · simp only [Value.slice.injEq] at hv
    obtain ⟨rfl, _, rfl⟩ := hv
    refine ⟨g, 0, rfl, (Array.getElem?_eq_some_iff.1 hh).1, fun j u hj => ?_⟩
    rw [Nat.zero_add, cell_of_row w g j _ _ _ hh]
    rw [← htake, List.getElem?_take] at hj
    split at hj
    · simpa using hj
    · cases hj
theorem OwnT.nil (w : World) (base : Nat) (e : TypeId) : OwnT w base e (.slice none 0 0) 0 [] := ⟨rfl, .inl ⟨rfl, rfl⟩⟩

/-- From w to w' the slice v, of the call's own, became v', which owns n elements, the cells xs: nothing else has turned. -/
structure AppT (w : World) (base : Nat) (e : TypeId) (v : Value) (n : Nat) (xs : List Value) (w' : World) (v' : Value) : Prop where
  own : OwnT w' base e v' n xs
  grow : w.grownBy w' v.ownBlock
  loc : v'.ownBlock = v.ownBlock ∨ ∃ g, v'.ownBlock = some g ∧ w.heap.size ≤ g
theorem AppT.start (h : OwnT w base e v n xs) : AppT w base e v n xs w v := ⟨h, World.grownBy.refl _ _, .inl rfl⟩
theorem AppT.trans (h : AppT w base e v n xs w1 v1) (k : AppT w1 base e v1 m ys w2 v2) : AppT w base e v m ys w2 v2 := by
  have hs := h.grow.size
  refine ⟨k.own, h.grow.andThen k.grow fun j hj => ?_, ?_⟩
  · rcases h.loc with hl | ⟨g, hl, hg⟩
    · exact .inr (by rw [← hl]; exact hj)
    · rw [hl] at hj
      injection hj with hj
      exact .inl (by omega)
  · rcases k.loc with hk | ⟨g, hk, hg⟩
    · rcases h.loc with hl | ⟨g, hl, hg⟩
      · exact .inl (hk.trans hl)
      · exact .inr ⟨g, hk.trans hl, hg⟩
    · exact .inr ⟨g, hk, by omega⟩
/-- A block was made ahead of the append. -/
theorem AppT.behind (o : Obj) (k : AppT (w.alloc o) base e v n xs w2 v2) : AppT w base e v n xs w2 v2 := by
  refine ⟨k.own, (World.grownBy_alloc w o v.ownBlock).andThen k.grow fun j hj => .inr hj, ?_⟩
  rcases k.loc with hk | ⟨g, hk, hg⟩
  · exact .inl hk
  · exact .inr ⟨g, hk, by simp at hg; omega⟩
theorem AppT.form (h : AppT w base e v n xs w1 v1) : ∃ A c, v1 = .slice A n c := h.own.form
theorem AppT.mod (h : AppT w base e v n xs w1 v1) : Mod (ownS v) w w1 := Mod.of_grown h.grow
theorem AppT.place (h : AppT w base e v n xs w1 v1) : ∀ k, ownS v1 k → ownS v k ∨ w.heap.size ≤ k := fun k hk => by
  rcases h.loc with hl | ⟨g, hl, hg⟩
  · exact .inl (by unfold ownS at hk ⊢; rw [← hl]; exact hk)
  · unfold ownS at hk
    rw [hl] at hk
    injection hk with hk
    exact .inr (by omega)
theorem AppT.below {B : Nat} {W : World} (h : AppT w base e v n xs w1 v1) (hb : Below B W w) (hB : B ≤ w.heap.size) (hv : ∀ k, v.ownBlock = some k → B ≤ k) : Below B W w1 := hb.grown h.grow hB hv
end

section
variable {P : Program} (w : World)
end
end Go.Proofs.YtfnkbpcimbldbaaDoor
