/- The states of a reader, plainly. -/
import Derived.Test.YtjoifgeljjgflaaDoorKOpen
namespace Go.Proofs.YtjoifgeljjgflaaDoor
open Go.RowKit CrcP FieldP

theorem Box.set {w : World} {g i : Nat} {cs : Array Value} {t : TypeId} (h : Box w g cs t) (v : Value) : Box (w.setCell ⟨g, i, none⟩ v) g (cs.setIfInBounds i v) t := heap_setCell_same w g i _ _ _ h
theorem Box.only {w w' : World} {g k : Nat} {cs : Array Value} {t : TypeId} (h : Box w k cs t) (ho : Only g w w') (hne : k ≠ g) : Box w' k cs t := (ho.block k h.lt (fun e => by injection e with e; exact hne (by first | exact e | exact e.symm))).trans h
theorem Box.set_other {w : World} {g i k : Nat} {cs : Array Value} {t : TypeId} (h : Box w k cs t) (v : Value) (hne : k ≠ g) : Box (w.setCell ⟨g, i, none⟩ v) k cs t := (Below.heap_setCell w _ v k (fun e => hne (by simpa using e))).trans h
/-- The states behind k of the numbers, and the numbers. -/
def stK (bs : List UInt8) (s : RSt) : Nat → RSt
  | 0 => s
  | k + 1 => ((stK bs s k).num bs 4).2
def vaK (bs : List UInt8) (s : RSt) (k : Nat) : Nat := ((stK bs s k).num bs 4).1
theorem stK_le {bs : List UInt8} {s : RSt} (h : s.p ≤ bs.length) : ∀ k, (stK bs s k).p ≤ bs.length
  | 0 => h
  | k + 1 => num_le (stK_le h k)
theorem num_ge (bs : List UInt8) (s : RSt) (k : Nat) : s.p ≤ (s.num bs k).2.p := by
  unfold RSt.num
  split
  · exact Nat.le_refl _
  · split
    · exact Nat.le_add_right _ _
    · exact Nat.le_refl _
theorem stK_ge (bs : List UInt8) (s : RSt) : ∀ k, s.p ≤ (stK bs s k).p
  | 0 => Nat.le_refl _
  | k + 1 => Nat.le_trans (stK_ge bs s k) (num_ge _ _ _)
theorem openS_le {bs : List UInt8} {p : Nat} (h : p ≤ bs.length) : (openS bs p).p ≤ bs.length := row_le (s := ⟨p, false⟩) h
theorem openS_ge (bs : List UInt8) (p : Nat) : p ≤ (openS bs p).p := by
  unfold openS RSt.row
  split
  · exact Nat.le_refl _
  · split
    · exact Nat.le_add_right _ _
    · exact Nat.le_refl _
theorem num_good {bs : List UInt8} {s : RSt} {k : Nat} (h : (s.num bs k).2.bad = false) : s.bad = false ∧ s.p + k ≤ bs.length ∧ (s.num bs k).2.p = s.p + k := by
  unfold RSt.num at h ⊢
  split at h
  · rename_i h1; rw [h1] at h; cases h
  · rename_i h1
    split at h
    · rename_i h2
      rw [if_neg h1, if_pos h2]
      exact ⟨by simpa using h1, h2, rfl⟩
    · cases h
theorem row_good {bs : List UInt8} {s : RSt} {k : Nat} (h : (s.row bs k).2.bad = false) : s.bad = false ∧ s.p + k ≤ bs.length ∧ (s.row bs k).2.p = s.p + k := by
  unfold RSt.row at h ⊢
  split at h
  · rename_i h1; rw [h1] at h; cases h
  · rename_i h1
    split at h
    · rename_i h2
      rw [if_neg h1, if_pos h2]
      exact ⟨by simpa using h1, h2, rfl⟩
    · cases h
theorem num_there {bs : List UInt8} {p k : Nat} (h : p + k ≤ bs.length) : RSt.num bs ⟨p, false⟩ k = (val ((bs.drop p).take k), ⟨p + k, false⟩) := by
  unfold RSt.num
  rw [if_neg (by simp), if_pos h]
theorem row_there {bs : List UInt8} {p k : Nat} (h : p + k ≤ bs.length) : RSt.row bs ⟨p, false⟩ k = ((bs.drop p).take k, ⟨p + k, false⟩) := by
  unfold RSt.row
  rw [if_neg (by simp), if_pos h]

theorem openS_there {bs : List UInt8} {p : Nat} (h : p + 4 ≤ bs.length) : openS bs p = ⟨p + 4, false⟩ := by unfold openS; rw [row_there h]
theorem stK_there {bs : List UInt8} {p : Nat} : ∀ k, p + 4 * k ≤ bs.length → stK bs ⟨p, false⟩ k = ⟨p + 4 * k, false⟩
  | 0, _ => rfl
  | k + 1, h => by
    rw [stK, stK_there k (by omega), num_there (by omega)]
    rfl
theorem vaK_there {bs : List UInt8} {p k : Nat} (h : p + 4 * k + 4 ≤ bs.length) : vaK bs ⟨p, false⟩ k = val ((bs.drop (p + 4 * k)).take 4) := by
  unfold vaK
  rw [stK_there k (by omega), num_there h]
theorem cut_in {X : List UInt8} {bs : List UInt8} {p n i k : Nat} (h : (bs.drop p).take n = X) (hi : i + k ≤ n) : (bs.drop (p + i)).take k = (X.drop i).take k := by
  rw [← h, List.drop_take, List.take_take, List.drop_drop, show min k (n - i) = k by omega]
theorem val_put4 {a : Nat} (h : a < 4294967296) : val (putN a 4) = a := by rw [val_putN]; exact Nat.mod_eq_of_lt h
theorem app_drop {a b : List UInt8} {n : Nat} (h : a.length = n) : (a ++ b).drop n = b := by subst h; exact List.drop_left
theorem app_take {a b : List UInt8} {n : Nat} (h : a.length = n) : (a ++ b).take n = a := by subst h; exact List.take_left
theorem row_ge (bs : List UInt8) (s : RSt) (k : Nat) : s.p ≤ (s.row bs k).2.p := by
  unfold RSt.row
  split
  · exact Nat.le_refl _
  · split
    · exact Nat.le_add_right _ _
    · exact Nat.le_refl _
theorem row_len {bs : List UInt8} (s : RSt) (k : Nat) : (s.row bs k).1.length ≤ k := by
  unfold RSt.row
  split
  · exact Nat.zero_le _
  · split
    · rw [List.length_take]; omega
    · exact Nat.zero_le _
theorem num_lt1 (bs : List UInt8) (s : RSt) : (s.num bs 1).1 < 4294967296 := num_lt (by omega)
theorem own_capK {w : World} {base : Nat} {e : TypeId} {A : Option Addr} {n c : Nat} {xs : List Value} (h : OwnT w base e (.slice A n c) n xs) : n ≤ c := by
  rcases h.2 with ⟨h1, h2⟩ | ⟨g, cap, cur, fz, h1, _, _, _, h3, _⟩
  · omega
  · injection h1 with _ _ h4
    omega
end Go.Proofs.YtjoifgeljjgflaaDoor
