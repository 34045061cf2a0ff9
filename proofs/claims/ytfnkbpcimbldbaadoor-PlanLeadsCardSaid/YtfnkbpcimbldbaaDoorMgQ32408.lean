/- What a call may change, as a set of blocks: whatever else there was is as it was. -/
import Derived.Test.YtfnkbpcimbldbaaDoorMgQ32406
import Derived.Deep.Draws
import Derived.Lib.AppendZerosOnto
namespace Go.Proofs.YtfnkbpcimbldbaaDoor
open Go.RowKit

/-- Of the blocks of w those of S alone may have changed; blocks may have been made. -/
structure Mod (S : Nat → Prop) (w w' : World) : Prop where
  os : w'.os = w.os
  tape : w'.tape = w.tape
  output : w'.output = w.output
  size : w.heap.size ≤ w'.heap.size
  block : ∀ k, k < w.heap.size → ¬ S k → w'.heap[k]? = w.heap[k]?
theorem Below.drewN {B : Nat} {a w : World} (h : Below B a w) (n : Nat) : Below B a (w.drewN n) := ⟨h.os, h.tape, h.output, h.size, h.block⟩
/-- No block. -/
def noB : Nat → Prop := fun _ => False
/-- One block. -/
def oneB (g : Nat) : Nat → Prop := fun k => k = g
/-- The block of a slice of the call's own. -/
def ownS (v : Value) : Nat → Prop := fun k => v.ownBlock = some k
/-- Either. -/
def orS (S T : Nat → Prop) : Nat → Prop := fun k => S k ∨ T k

section
variable {S S1 S2 T : Nat → Prop} {w w1 w2 : World}
theorem Mod.refl (S : Nat → Prop) (w : World) : Mod S w w := ⟨rfl, rfl, rfl, Nat.le_refl _, fun _ _ _ => rfl⟩
theorem Mod.trans (h : Mod S w w1) (k : Mod S1 w1 w2) (hS : ∀ k, S1 k → S k ∨ w.heap.size ≤ k) : Mod S w w2 :=
  ⟨k.os.trans h.os, k.tape.trans h.tape, k.output.trans h.output, Nat.le_trans h.size k.size, fun j hj hn => by
    have := h.size
    refine (k.block j (by omega) fun h1 => ?_).trans (h.block j hj hn)
    rcases hS j h1 with h2 | h2
    · exact hn h2
    · omega⟩
theorem Mod.mono (h : Mod S w w1) (hS : ∀ k, S k → T k) : Mod T w w1 := ⟨h.os, h.tape, h.output, h.size, fun k hk hn => h.block k hk fun hs => hn (hS k hs)⟩
theorem Mod.drew (h : Mod S w w1) : Mod S w w1.drew := ⟨h.os, h.tape, h.output, h.size, h.block⟩
theorem Mod.drewN (h : Mod S w w1) (n : Nat) : Mod S w (w1.drewN n) := ⟨h.os, h.tape, h.output, h.size, h.block⟩
theorem Mod.alloc (h : Mod S w w1) (o : Obj) : Mod S w (w1.alloc o) :=
  ⟨h.os, h.tape, h.output, Nat.le_trans h.size (by simp), fun k hk hn => (Below.heap_alloc w1 o k (Nat.lt_of_lt_of_le hk h.size)).trans (h.block k hk hn)⟩
theorem Mod.set (h : Mod S w w1) (a : Addr) (v : Value) (hS : S a.block ∨ w.heap.size ≤ a.block) : Mod S w (w1.setCell a v) :=
  ⟨h.os, h.tape, h.output, by simpa [World.setCell] using h.size, fun k hk hn => (Below.heap_setCell w1 _ v k (fun e => by
    subst e
    rcases hS with h1 | h1
    · exact hn h1
    · omega)).trans (h.block k hk hn)⟩
theorem Mod.of_below (h : Below w.heap.size w w1) : Mod noB w w1 := ⟨h.os, h.tape, h.output, h.size, fun k hk _ => h.block k hk⟩
theorem Mod.of_grown {v : Value} (h : w.grownBy w1 v.ownBlock) : Mod (ownS v) w w1 := ⟨h.os, h.tape, h.output, h.size, fun k hk hn => h.block k hk fun e => hn e.symm⟩
theorem Mod.of_app {base : Nat} {e : TypeId} {size : Nat} {v v1 : Value} {n : Nat} {xs : List Value} (h : App w base e size v n xs w1 v1) : Mod (ownS v) w w1 := Mod.of_grown h.grow
theorem Mod.below {B : Nat} {W : World} (h : Mod S w w1) (hb : Below B W w) (hB : B ≤ w.heap.size) (hS : ∀ k, S k → B ≤ k) : Below B W w1 :=
  hb.trans ⟨h.os, h.tape, h.output, h.size, fun k hk => h.block k (by omega) fun hs => by have := hS k hs; omega⟩
/-- A block that is none of those. -/
theorem Mod.keep (h : Mod S w w1) {k : Nat} {o : Obj} (hk : w.heap[k]? = some o) (hn : ¬ S k) : w1.heap[k]? = some o :=
  (h.block k (Array.getElem?_eq_some_iff.1 hk).1 hn).trans hk
/-- What the call owns, and is none of those. -/
theorem own_keep {base : Nat} {e : TypeId} {size : Nat} {v : Value} {n : Nat} {xs : List Value} (h : w.ownsRow base e size v n xs) (hm : Mod S w w1) (hd : ∀ k, ownS v k → ¬ S k) : w1.ownsRow base e size v n xs := by
  obtain ⟨h1, h2⟩ := h
  refine ⟨h1, ?_⟩
  rcases h2 with h2 | ⟨g, cap, cur, rfl, hg, hh, h3⟩
  · exact .inl h2
  · exact .inr ⟨g, cap, cur, rfl, hg, hm.keep hh (hd g rfl), h3⟩
/-- Where the new slice lies. -/
theorem App.place {base : Nat} {e : TypeId} {size : Nat} {v v1 : Value} {n : Nat} {xs : List Value} (h : App w base e size v n xs w1 v1) : ∀ k, ownS v1 k → ownS v k ∨ w.heap.size ≤ k := fun k hk => by
  rcases h.loc with hl | ⟨g, hl, hg⟩
  · exact .inl (by unfold ownS at hk ⊢; rw [← hl]; exact hk)
  · unfold ownS at hk
    rw [hl] at hk
    injection hk with hk
    exact .inr (by omega)
theorem Cells.mod {B : Nat} {A : Option Addr} {xs : List Value} (h : Cells w B A xs) (hm : Mod S w w1) (hB : B ≤ w.heap.size) (hS : ∀ k, S k → B ≤ k) : Cells w1 B A xs :=
  h.below (hm.below (Below.refl B w) hB hS) (Nat.le_refl _)
theorem Cells.drewN' {B : Nat} {A : Option Addr} {xs : List Value} (h : Cells w B A xs) (n : Nat) : Cells (w.drewN n) B A xs := h
end

end Go.Proofs.YtfnkbpcimbldbaaDoor
/- Rows of the call's own: copy into them, zeros behind them, one cell set. -/
namespace Go.Proofs.YtfnkbpcimbldbaaDoor
open Go.RowKit

section
variable {w w' : World} {base : Nat} {e : TypeId} {n c g : Nat} {xs : List Value}

end

section
variable {P : Program} (w : World)

end
end Go.Proofs.YtfnkbpcimbldbaaDoor
