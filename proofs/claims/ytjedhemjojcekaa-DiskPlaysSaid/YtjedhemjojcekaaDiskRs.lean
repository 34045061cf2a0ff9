/- Layer 4, the document's answer: its state, and Sync. -/
import Derived.Test.YtjedhemjojcekaaDiskRf
namespace Go.Proofs.Ytjedhemjojcekaa
open Go.RowKit
attribute [local go_sem ↓] Go.wp_at_zero Go.wp_at_succ

/-- The blocks of the reference's disk. -/
def rS (g : Nat) (v1 v2 v3 v4 : Value) : Nat → Prop := orS (oneB g) (orS (ownS v1) (orS (ownS v2) (orS (ownS v3) (ownS v4))))
theorem rS_1 {g : Nat} {v1 v2 v3 v4 : Value} : ∀ k, ownS v1 k → rS g v1 v2 v3 v4 k := fun _ h => .inr (.inl h)
theorem rS_2 {g : Nat} {v1 v2 v3 v4 : Value} : ∀ k, ownS v2 k → rS g v1 v2 v3 v4 k := fun _ h => .inr (.inr (.inl h))
theorem rS_3 {g : Nat} {v1 v2 v3 v4 : Value} : ∀ k, ownS v3 k → rS g v1 v2 v3 v4 k := fun _ h => .inr (.inr (.inr (.inl h)))
theorem rS_4 {g : Nat} {v1 v2 v3 v4 : Value} : ∀ k, ownS v4 k → rS g v1 v2 v3 v4 k := fun _ h => .inr (.inr (.inr (.inr h)))
/-- The reference's disk of some bytes, those that are safe, and what waits. -/
def RfS (w : World) (g base : Nat) (S : Nat → Prop) (now safe : List UInt8) (waits : List (Nat × List UInt8)) : Prop :=
  ∃ A1 c1 A2 c2 A3 c3 A4 c4, RfL w g base (sectors now) (safes (now.length / 512) safe) (hass (now.length / 512) safe) waits A1 c1 A2 c2 A3 c3 A4 c4 ∧
    S = rS g (.slice A1 (sectors now).length c1) (.slice A2 (safes (now.length / 512) safe).length c2) (.slice A3 (hass (now.length / 512) safe).length c3) (.slice A4 waits.length c4)
theorem sectors_length (l : List UInt8) : (sectors l).length = l.length / 512 := by simp [sectors]
theorem safes_length (z : Nat) (l : List UInt8) : (safes z l).length = z := by simp [safes]
theorem hass_length (z : Nat) (l : List UInt8) : (hass z l).length = z := by simp [hass]
/-- All is safe. -/
theorem safes_all (l : List UInt8) : safes (l.length / 512) l = sectors l := by
  unfold safes sectors
  apply List.map_congr_left
  intro i hi
  rw [if_pos (List.mem_range.1 hi)]
theorem hass_all (l : List UInt8) : hass (l.length / 512) l = List.replicate (l.length / 512) true := by
  apply List.ext_getElem?
  intro i
  unfold hass
  by_cases h : i < l.length / 512
  · simp [h]
  · simp [h]
/-- The first ones of a row, the rest of another one. -/
def mix {α : Type} (a b : List α) (i : Nat) : List α := a.take i ++ b.drop i
theorem mix_length {α : Type} (a b : List α) (i : Nat) (h : a.length = b.length) : (mix a b i).length = b.length := by
  simp [mix]
  omega
theorem mix_set {α : Type} (a b : List α) (i : Nat) (x : α) (h : a.length = b.length) (hx : a[i]? = some x) : (mix a b i).set i x = mix a b (i + 1) := by
  obtain ⟨hi, rfl⟩ := List.getElem?_eq_some_iff.1 hx
  apply List.ext_getElem?
  intro j
  unfold mix
  simp only [List.getElem?_set, List.getElem?_append, List.length_append, List.length_take, List.length_drop, List.getElem?_take, List.getElem?_drop]
  by_cases h1 : i = j
  · subst h1
    rw [if_pos rfl, if_pos (by omega), if_pos (by omega), if_pos (by omega)]
    exact (List.getElem?_eq_getElem hi).symm
  · rw [if_neg h1]
    by_cases h2 : j < i
    · rw [if_pos (by omega), if_pos h2, if_pos (by omega), if_pos (by omega)]
    · rw [if_neg (by omega), if_neg (by omega)]
      congr 1
      omega
theorem mix_zero {α : Type} (a b : List α) : mix a b 0 = b := by simp [mix]
theorem mix_end {α : Type} (a b : List α) (h : a.length = b.length) : mix a b b.length = a := by
  unfold mix
  rw [List.take_of_length_le (by omega), List.drop_of_length_le (Nat.le_refl _), List.append_nil]
theorem strCells_length (l : List (List UInt8)) : (strCells l).length = l.length := by simp [strCells]
theorem strCells_set (l : List (List UInt8)) (i : Nat) (x : List UInt8) (h : i < l.length) : splice (strCells l) i [.string ⟨x.toArray⟩] = strCells (l.set i x) := by
  rw [← set_splice _ _ _ (by rw [strCells_length]; exact h)]
  simp [strCells, List.map_set]
theorem boolCells_set (l : List Bool) (i : Nat) (x : Bool) (h : i < l.length) : splice (boolCells l) i [.bool x] = boolCells (l.set i x) := by
  rw [← set_splice _ _ _ (by simp [boolCells]; exact h)]
  simp [boolCells, List.map_set]

section
variable {w : World} {g base : Nat} {nw sf : List (List UInt8)} {hs : List Bool} {wt : List (Nat × List UInt8)} {A1 A2 A3 A4 : Option Addr} {c1 c2 c3 c4 : Nat}
theorem RfL.ne1 (h : RfL w g base nw sf hs wt A1 c1 A2 c2 A3 c3 A4 c4) : ¬ ownS (.slice A1 nw.length c1) g := own_ne h.o1 h.blk (by decide)
theorem RfL.ne2 (h : RfL w g base nw sf hs wt A1 c1 A2 c2 A3 c3 A4 c4) : ¬ ownS (.slice A2 sf.length c2) g := own_ne h.o2 h.blk (by decide)
theorem RfL.ne3 (h : RfL w g base nw sf hs wt A1 c1 A2 c2 A3 c3 A4 c4) : ¬ ownS (.slice A3 hs.length c3) g := own_ne h.o3 h.blk (by decide)
theorem RfL.ne4 (h : RfL w g base nw sf hs wt A1 c1 A2 c2 A3 c3 A4 c4) : ¬ ownS (.slice A4 wt.length c4) g := own_ne h.o4 h.blk (by decide)
/-- A safe sector is set. -/
theorem RfL.setSafe {b i : Nat} (h : RfL w g base nw sf hs wt A1 c1 (some ⟨b, 0, none⟩) c2 A3 c3 A4 c4) (x : List UInt8) (hi : i < sf.length) :
    RfL (w.setCell ⟨b, i, none⟩ (.string ⟨x.toArray⟩)) g base nw (sf.set i x) hs wt A1 c1 (some ⟨b, 0, none⟩) c2 A3 c3 A4 c4 ∧ Mod (oneB b) w (w.setCell ⟨b, i, none⟩ (.string ⟨x.toArray⟩)) := by
  have hm : Mod (oneB b) w (w.setCell ⟨b, i, none⟩ (.string ⟨x.toArray⟩)) := (Mod.refl _ w).set _ _ (.inl rfl)
  have hb : ∀ k, oneB b k → ownS (.slice (some ⟨b, 0, none⟩) sf.length c2) k := fun k hk => by rw [show k = b from hk]; rfl
  have hl : (sf.set i x).length = sf.length := by simp
  refine ⟨⟨?_, own_keep h.o1 hm (fun k hk hk2 => h.apart k hk (hb k hk2)), ?_, own_keep h.o3 hm (fun k hk hk2 => own_ne2 h.o2 h.o3 (by decide) k (hb k hk2) hk), own_keep h.o4 hm (fun k hk hk2 => own_ne2 h.o2 h.o4 (by decide) k (hb k hk2) hk), ?_⟩, hm⟩
  · rw [hl]
    exact hm.keep h.blk (fun hk => h.ne2 (hb g hk))
  · rw [hl, ← strCells_set _ _ _ hi]
    exact own_setcell h.o2 i _ hi
  · rw [hl]
    exact h.apart
/-- .. and that something is safe there. -/
theorem RfL.setHas {b i : Nat} (h : RfL w g base nw sf hs wt A1 c1 A2 c2 (some ⟨b, 0, none⟩) c3 A4 c4) (x : Bool) (hi : i < hs.length) :
    RfL (w.setCell ⟨b, i, none⟩ (.bool x)) g base nw sf (hs.set i x) wt A1 c1 A2 c2 (some ⟨b, 0, none⟩) c3 A4 c4 ∧ Mod (oneB b) w (w.setCell ⟨b, i, none⟩ (.bool x)) := by
  have hm : Mod (oneB b) w (w.setCell ⟨b, i, none⟩ (.bool x)) := (Mod.refl _ w).set _ _ (.inl rfl)
  have hb : ∀ k, oneB b k → ownS (.slice (some ⟨b, 0, none⟩) hs.length c3) k := fun k hk => by rw [show k = b from hk]; rfl
  have hl : (hs.set i x).length = hs.length := by simp
  refine ⟨⟨?_, own_keep h.o1 hm (fun k hk hk2 => own_ne2 h.o3 h.o1 (by decide) k (hb k hk2) hk), own_keep h.o2 hm (fun k hk hk2 => own_ne2 h.o3 h.o2 (by decide) k (hb k hk2) hk), ?_, own_keep h.o4 hm (fun k hk hk2 => own_ne2 h.o3 h.o4 (by decide) k (hb k hk2) hk), h.apart⟩, hm⟩
  · rw [hl]
    exact hm.keep h.blk (fun hk => h.ne3 (hb g hk))
  · rw [hl, ← boolCells_set _ _ _ hi]
    exact own_setcell h.o3 i _ hi
/-- .. a sector as it is now. -/
theorem RfL.setNow {b i : Nat} (h : RfL w g base nw sf hs wt (some ⟨b, 0, none⟩) c1 A2 c2 A3 c3 A4 c4) (x : List UInt8) (hi : i < nw.length) :
    RfL (w.setCell ⟨b, i, none⟩ (.string ⟨x.toArray⟩)) g base (nw.set i x) sf hs wt (some ⟨b, 0, none⟩) c1 A2 c2 A3 c3 A4 c4 ∧ Mod (oneB b) w (w.setCell ⟨b, i, none⟩ (.string ⟨x.toArray⟩)) := by
  have hm : Mod (oneB b) w (w.setCell ⟨b, i, none⟩ (.string ⟨x.toArray⟩)) := (Mod.refl _ w).set _ _ (.inl rfl)
  have hb : ∀ k, oneB b k → ownS (.slice (some ⟨b, 0, none⟩) nw.length c1) k := fun k hk => by rw [show k = b from hk]; rfl
  have hl : (nw.set i x).length = nw.length := by simp
  refine ⟨⟨?_, ?_, own_keep h.o2 hm (fun k hk hk2 => h.apart k (hb k hk2) hk), own_keep h.o3 hm (fun k hk hk2 => own_ne2 h.o1 h.o3 (by decide) k (hb k hk2) hk), own_keep h.o4 hm (fun k hk hk2 => own_ne2 h.o1 h.o4 (by decide) k (hb k hk2) hk), ?_⟩, hm⟩
  · rw [hl]
    exact hm.keep h.blk (fun hk => h.ne1 (hb g hk))
  · rw [hl, ← strCells_set _ _ _ hi]
    exact own_setcell h.o1 i _ hi
  · rw [hl]
    exact h.apart
end
end Go.Proofs.Ytjedhemjojcekaa
