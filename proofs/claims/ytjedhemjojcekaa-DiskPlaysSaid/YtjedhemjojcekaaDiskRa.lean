/- Layer 4, the document's answer: a row of its disk grows by one. -/
import Derived.Test.YtjedhemjojcekaaDiskRc
namespace Go.Proofs.Ytjedhemjojcekaa
open Go.RowKit

section
variable {w w7 : World} {g base : Nat} {nw sf : List (List UInt8)} {hs : List Bool} {wt : List (Nat × List UInt8)} {A1 A2 A3 A4 A : Option Addr} {c1 c2 c3 c4 c : Nat}
/-- Row 1. -/
theorem rapp1 (h : RfL w g base nw sf hs wt A1 c1 A2 c2 A3 c3 A4 c4) (x : List UInt8)
    (hA : App w base 9 1 (.slice A1 nw.length c1) (nw.length + 1) (strCells nw ++ [.string ⟨x.toArray⟩]) w7 (.slice A (nw.length + 1) c)) :
    RfL (w7.setCell ⟨g, 0, none⟩ (.slice A (nw.length + 1) c)) g base (nw ++ [x]) sf hs wt A c A2 c2 A3 c3 A4 c4 ∧ Mod (rS g (.slice A1 nw.length c1) (.slice A2 sf.length c2) (.slice A3 hs.length c3) (.slice A4 wt.length c4)) w (w7.setCell ⟨g, 0, none⟩ (.slice A (nw.length + 1) c)) ∧ ∀ k, rS g (.slice A (nw.length + 1) c) (.slice A2 sf.length c2) (.slice A3 hs.length c3) (.slice A4 wt.length c4) k → rS g (.slice A1 nw.length c1) (.slice A2 sf.length c2) (.slice A3 hs.length c3) (.slice A4 wt.length c4) k ∨ w.heap.size ≤ k := by
  have hl : (nw ++ [x]).length = nw.length + 1 := by simp
  have hm1 : Mod (ownS (.slice A1 nw.length c1)) w w7 := Mod.of_app hA
  have hb7 : RfB w7 g (.slice A1 nw.length c1) (.slice A2 sf.length c2) (.slice A3 hs.length c3) (.slice A4 wt.length c4) := hm1.keep h.blk h.ne1
  have p2 := own_keep h.o2 hm1 (fun q hq hq2 => h.apart q hq2 hq)
  have e2 : ¬ ownS (.slice A2 sf.length c2) g := own_ne p2 hb7 (by decide)
  have p3 := own_keep h.o3 hm1 (own_ne2 h.o3 h.o1 (by decide))
  have e3 : ¬ ownS (.slice A3 hs.length c3) g := own_ne p3 hb7 (by decide)
  have p4 := own_keep h.o4 hm1 (own_ne2 h.o4 h.o1 (by decide))
  have e4 : ¬ ownS (.slice A4 wt.length c4) g := own_ne p4 hb7 (by decide)
  have e1 : ¬ ownS (.slice A (nw.length + 1) c) g := own_ne hA.own hb7 (by decide)
  have hset : Mod (oneB g) w7 (w7.setCell ⟨g, 0, none⟩ (.slice A (nw.length + 1) c)) := (Mod.refl (oneB g) w7).set ⟨g, 0, none⟩ _ (.inl rfl)
  have hmod : Mod (rS g (.slice A1 nw.length c1) (.slice A2 sf.length c2) (.slice A3 hs.length c3) (.slice A4 wt.length c4)) w (w7.setCell ⟨g, 0, none⟩ (.slice A (nw.length + 1) c)) := (hm1.mono (fun k hk => rS_1 k hk)).trans hset (fun k hk => .inl (.inl hk))
  refine ⟨⟨?_, ?_, own_keep p2 hset (fun k hk he => e2 (he ▸ hk)), own_keep p3 hset (fun k hk he => e3 (he ▸ hk)), own_keep p4 hset (fun k hk he => e4 (he ▸ hk)), ?_⟩, hmod, ?_⟩
  · rw [hl]
    exact heap_setCell_same w7 g 0 _ _ _ hb7
  · have := own_keep hA.own hset (fun k hk he => e1 (he ▸ hk))
    rw [hl]
    simpa [strCells, boolCells, wCells] using this
  · rw [hl]
    intro k hk h2
    rcases hA.place k hk with h3 | h3
    · exact h.apart k h3 h2
    · have := own_lt h.o2 k h2
      omega
  · rintro k (hk | hk | hk | hk | hk)
    · exact .inl (.inl hk)
    · rcases hA.place k hk with h3 | h3
      · exact .inl (rS_1 k h3)
      · exact .inr h3
    · exact .inl (rS_2 k hk)
    · exact .inl (rS_3 k hk)
    · exact .inl (rS_4 k hk)
/-- Row 2. -/
theorem rapp2 (h : RfL w g base nw sf hs wt A1 c1 A2 c2 A3 c3 A4 c4) (x : List UInt8)
    (hA : App w base 9 1 (.slice A2 sf.length c2) (sf.length + 1) (strCells sf ++ [.string ⟨x.toArray⟩]) w7 (.slice A (sf.length + 1) c)) :
    RfL (w7.setCell ⟨g, 1, none⟩ (.slice A (sf.length + 1) c)) g base nw (sf ++ [x]) hs wt A1 c1 A c A3 c3 A4 c4 ∧ Mod (rS g (.slice A1 nw.length c1) (.slice A2 sf.length c2) (.slice A3 hs.length c3) (.slice A4 wt.length c4)) w (w7.setCell ⟨g, 1, none⟩ (.slice A (sf.length + 1) c)) ∧ ∀ k, rS g (.slice A1 nw.length c1) (.slice A (sf.length + 1) c) (.slice A3 hs.length c3) (.slice A4 wt.length c4) k → rS g (.slice A1 nw.length c1) (.slice A2 sf.length c2) (.slice A3 hs.length c3) (.slice A4 wt.length c4) k ∨ w.heap.size ≤ k := by
  have hl : (sf ++ [x]).length = sf.length + 1 := by simp
  have hm1 : Mod (ownS (.slice A2 sf.length c2)) w w7 := Mod.of_app hA
  have hb7 : RfB w7 g (.slice A1 nw.length c1) (.slice A2 sf.length c2) (.slice A3 hs.length c3) (.slice A4 wt.length c4) := hm1.keep h.blk h.ne2
  have p1 := own_keep h.o1 hm1 h.apart
  have e1 : ¬ ownS (.slice A1 nw.length c1) g := own_ne p1 hb7 (by decide)
  have p3 := own_keep h.o3 hm1 (own_ne2 h.o3 h.o2 (by decide))
  have e3 : ¬ ownS (.slice A3 hs.length c3) g := own_ne p3 hb7 (by decide)
  have p4 := own_keep h.o4 hm1 (own_ne2 h.o4 h.o2 (by decide))
  have e4 : ¬ ownS (.slice A4 wt.length c4) g := own_ne p4 hb7 (by decide)
  have e2 : ¬ ownS (.slice A (sf.length + 1) c) g := own_ne hA.own hb7 (by decide)
  have hset : Mod (oneB g) w7 (w7.setCell ⟨g, 1, none⟩ (.slice A (sf.length + 1) c)) := (Mod.refl (oneB g) w7).set ⟨g, 1, none⟩ _ (.inl rfl)
  have hmod : Mod (rS g (.slice A1 nw.length c1) (.slice A2 sf.length c2) (.slice A3 hs.length c3) (.slice A4 wt.length c4)) w (w7.setCell ⟨g, 1, none⟩ (.slice A (sf.length + 1) c)) := (hm1.mono (fun k hk => rS_2 k hk)).trans hset (fun k hk => .inl (.inl hk))
  refine ⟨⟨?_, own_keep p1 hset (fun k hk he => e1 (he ▸ hk)), ?_, own_keep p3 hset (fun k hk he => e3 (he ▸ hk)), own_keep p4 hset (fun k hk he => e4 (he ▸ hk)), ?_⟩, hmod, ?_⟩
  · rw [hl]
    exact heap_setCell_same w7 g 1 _ _ _ hb7
  · have := own_keep hA.own hset (fun k hk he => e2 (he ▸ hk))
    rw [hl]
    simpa [strCells, boolCells, wCells] using this
  · rw [hl]
    intro k hk h2
    rcases hA.place k h2 with h3 | h3
    · exact h.apart k hk h3
    · have := own_lt h.o1 k hk
      omega
  · rintro k (hk | hk | hk | hk | hk)
    · exact .inl (.inl hk)
    · exact .inl (rS_1 k hk)
    · rcases hA.place k hk with h3 | h3
      · exact .inl (rS_2 k h3)
      · exact .inr h3
    · exact .inl (rS_3 k hk)
    · exact .inl (rS_4 k hk)
/-- Row 3. -/
theorem rapp3 (h : RfL w g base nw sf hs wt A1 c1 A2 c2 A3 c3 A4 c4) (x : Bool)
    (hA : App w base 4 1 (.slice A3 hs.length c3) (hs.length + 1) (boolCells hs ++ [.bool x]) w7 (.slice A (hs.length + 1) c)) :
    RfL (w7.setCell ⟨g, 2, none⟩ (.slice A (hs.length + 1) c)) g base nw sf (hs ++ [x]) wt A1 c1 A2 c2 A c A4 c4 ∧ Mod (rS g (.slice A1 nw.length c1) (.slice A2 sf.length c2) (.slice A3 hs.length c3) (.slice A4 wt.length c4)) w (w7.setCell ⟨g, 2, none⟩ (.slice A (hs.length + 1) c)) ∧ ∀ k, rS g (.slice A1 nw.length c1) (.slice A2 sf.length c2) (.slice A (hs.length + 1) c) (.slice A4 wt.length c4) k → rS g (.slice A1 nw.length c1) (.slice A2 sf.length c2) (.slice A3 hs.length c3) (.slice A4 wt.length c4) k ∨ w.heap.size ≤ k := by
  have hl : (hs ++ [x]).length = hs.length + 1 := by simp
  have hm1 : Mod (ownS (.slice A3 hs.length c3)) w w7 := Mod.of_app hA
  have hb7 : RfB w7 g (.slice A1 nw.length c1) (.slice A2 sf.length c2) (.slice A3 hs.length c3) (.slice A4 wt.length c4) := hm1.keep h.blk h.ne3
  have p1 := own_keep h.o1 hm1 (own_ne2 h.o1 h.o3 (by decide))
  have e1 : ¬ ownS (.slice A1 nw.length c1) g := own_ne p1 hb7 (by decide)
  have p2 := own_keep h.o2 hm1 (own_ne2 h.o2 h.o3 (by decide))
  have e2 : ¬ ownS (.slice A2 sf.length c2) g := own_ne p2 hb7 (by decide)
  have p4 := own_keep h.o4 hm1 (own_ne2 h.o4 h.o3 (by decide))
  have e4 : ¬ ownS (.slice A4 wt.length c4) g := own_ne p4 hb7 (by decide)
  have e3 : ¬ ownS (.slice A (hs.length + 1) c) g := own_ne hA.own hb7 (by decide)
  have hset : Mod (oneB g) w7 (w7.setCell ⟨g, 2, none⟩ (.slice A (hs.length + 1) c)) := (Mod.refl (oneB g) w7).set ⟨g, 2, none⟩ _ (.inl rfl)
  have hmod : Mod (rS g (.slice A1 nw.length c1) (.slice A2 sf.length c2) (.slice A3 hs.length c3) (.slice A4 wt.length c4)) w (w7.setCell ⟨g, 2, none⟩ (.slice A (hs.length + 1) c)) := (hm1.mono (fun k hk => rS_3 k hk)).trans hset (fun k hk => .inl (.inl hk))
  refine ⟨⟨?_, own_keep p1 hset (fun k hk he => e1 (he ▸ hk)), own_keep p2 hset (fun k hk he => e2 (he ▸ hk)), ?_, own_keep p4 hset (fun k hk he => e4 (he ▸ hk)), ?_⟩, hmod, ?_⟩
  · rw [hl]
    exact heap_setCell_same w7 g 2 _ _ _ hb7
  · have := own_keep hA.own hset (fun k hk he => e3 (he ▸ hk))
    rw [hl]
    simpa [strCells, boolCells, wCells] using this
  · exact h.apart
  · rintro k (hk | hk | hk | hk | hk)
    · exact .inl (.inl hk)
    · exact .inl (rS_1 k hk)
    · exact .inl (rS_2 k hk)
    · rcases hA.place k hk with h3 | h3
      · exact .inl (rS_3 k h3)
      · exact .inr h3
    · exact .inl (rS_4 k hk)
/-- Row 4. -/
theorem rapp4 (h : RfL w g base nw sf hs wt A1 c1 A2 c2 A3 c3 A4 c4) (x : Nat × List UInt8)
    (hA : App w base 54 2 (.slice A4 wt.length c4) (wt.length + 1) (wCells wt ++ [.int .i64 (x.1 : Int), .string ⟨x.2.toArray⟩]) w7 (.slice A (wt.length + 1) c)) :
    RfL (w7.setCell ⟨g, 3, none⟩ (.slice A (wt.length + 1) c)) g base nw sf hs (wt ++ [x]) A1 c1 A2 c2 A3 c3 A c ∧ Mod (rS g (.slice A1 nw.length c1) (.slice A2 sf.length c2) (.slice A3 hs.length c3) (.slice A4 wt.length c4)) w (w7.setCell ⟨g, 3, none⟩ (.slice A (wt.length + 1) c)) ∧ ∀ k, rS g (.slice A1 nw.length c1) (.slice A2 sf.length c2) (.slice A3 hs.length c3) (.slice A (wt.length + 1) c) k → rS g (.slice A1 nw.length c1) (.slice A2 sf.length c2) (.slice A3 hs.length c3) (.slice A4 wt.length c4) k ∨ w.heap.size ≤ k := by
  have hl : (wt ++ [x]).length = wt.length + 1 := by simp
  have hm1 : Mod (ownS (.slice A4 wt.length c4)) w w7 := Mod.of_app hA
  have hb7 : RfB w7 g (.slice A1 nw.length c1) (.slice A2 sf.length c2) (.slice A3 hs.length c3) (.slice A4 wt.length c4) := hm1.keep h.blk h.ne4
  have p1 := own_keep h.o1 hm1 (own_ne2 h.o1 h.o4 (by decide))
  have e1 : ¬ ownS (.slice A1 nw.length c1) g := own_ne p1 hb7 (by decide)
  have p2 := own_keep h.o2 hm1 (own_ne2 h.o2 h.o4 (by decide))
  have e2 : ¬ ownS (.slice A2 sf.length c2) g := own_ne p2 hb7 (by decide)
  have p3 := own_keep h.o3 hm1 (own_ne2 h.o3 h.o4 (by decide))
  have e3 : ¬ ownS (.slice A3 hs.length c3) g := own_ne p3 hb7 (by decide)
  have e4 : ¬ ownS (.slice A (wt.length + 1) c) g := own_ne hA.own hb7 (by decide)
  have hset : Mod (oneB g) w7 (w7.setCell ⟨g, 3, none⟩ (.slice A (wt.length + 1) c)) := (Mod.refl (oneB g) w7).set ⟨g, 3, none⟩ _ (.inl rfl)
  have hmod : Mod (rS g (.slice A1 nw.length c1) (.slice A2 sf.length c2) (.slice A3 hs.length c3) (.slice A4 wt.length c4)) w (w7.setCell ⟨g, 3, none⟩ (.slice A (wt.length + 1) c)) := (hm1.mono (fun k hk => rS_4 k hk)).trans hset (fun k hk => .inl (.inl hk))
  refine ⟨⟨?_, own_keep p1 hset (fun k hk he => e1 (he ▸ hk)), own_keep p2 hset (fun k hk he => e2 (he ▸ hk)), own_keep p3 hset (fun k hk he => e3 (he ▸ hk)), ?_, ?_⟩, hmod, ?_⟩
  · rw [hl]
    exact heap_setCell_same w7 g 3 _ _ _ hb7
  · have := own_keep hA.own hset (fun k hk he => e4 (he ▸ hk))
    rw [hl]
    simpa [strCells, boolCells, wCells] using this
  · exact h.apart
  · rintro k (hk | hk | hk | hk | hk)
    · exact .inl (.inl hk)
    · exact .inl (rS_1 k hk)
    · exact .inl (rS_2 k hk)
    · exact .inl (rS_3 k hk)
    · rcases hA.place k hk with h3 | h3
      · exact .inl (rS_4 k h3)
      · exact .inr h3
end

/-- The bytes of a disk that has grown, sector by sector. -/
theorem sectors_grow (now : List UInt8) (m : Nat) (h : now.length % 512 = 0) : sectors (now ++ List.replicate (512 * m) 0) = sectors now ++ List.replicate m zero512 := by
  have hz : 512 * (now.length / 512) = now.length := by omega
  have hl : (now ++ List.replicate (512 * m) (0 : UInt8)).length / 512 = now.length / 512 + m := by simp; omega
  apply List.ext_getElem?
  intro i
  by_cases hi : i < now.length / 512 + m
  · rw [sectors_get _ _ (by rw [hl]; exact hi), List.getElem?_append]
    by_cases h2 : i < now.length / 512
    · rw [if_pos (by rw [sectors_length]; exact h2), sectors_get _ _ h2]
      congr 1
      apply List.ext_getElem?
      intro j
      rw [secAt_get, secAt_get]
      by_cases hj : j < 512
      · rw [if_pos hj, if_pos hj, List.getElem?_append_left (by omega)]
      · rw [if_neg hj, if_neg hj]
    · rw [if_neg (by rw [sectors_length]; exact h2), sectors_length, List.getElem?_replicate, if_pos (by omega)]
      congr 1
      apply List.ext_getElem?
      intro j
      rw [secAt_get, zero512, List.getElem?_replicate]
      by_cases hj : j < 512
      · rw [if_pos hj, if_pos hj, List.getElem?_append_right (by omega), List.getElem?_replicate, if_pos (by omega)]
      · rw [if_neg hj, if_neg hj]
  · rw [List.getElem?_eq_none (by rw [sectors_length, hl]; omega), List.getElem?_eq_none (by rw [List.length_append, sectors_length, List.length_replicate]; omega)]
theorem safes_grow (z m : Nat) (safe : List UInt8) (h : safe.length / 512 ≤ z) : safes (z + m) safe = safes z safe ++ List.replicate m [] := by
  apply List.ext_getElem?
  intro i
  rw [List.getElem?_append, safes_length]
  unfold safes
  simp only [List.getElem?_map, List.getElem?_replicate]
  by_cases h1 : i < z
  · simp [h1, show i < z + m by omega]
  · by_cases h2 : i < z + m
    · simp [h1, h2, show ¬ i < safe.length / 512 by omega, show i - z < m by omega]
    · simp [h1, h2, show ¬ i - z < m by omega]
theorem hass_grow (z m : Nat) (safe : List UInt8) (h : safe.length / 512 ≤ z) : hass (z + m) safe = hass z safe ++ List.replicate m false := by
  apply List.ext_getElem?
  intro i
  rw [List.getElem?_append, hass_length]
  unfold hass
  by_cases h1 : i < z
  · simp [h1, show i < z + m by omega]
  · by_cases h2 : i < z + m
    · simp [h1, h2, show ¬ i < safe.length / 512 by omega, show i - z < m by omega]
    · simp [h1, h2, show ¬ i - z < m by omega]
/-- A sector that is written in part. -/
theorem sec_write (N bs : List UInt8) (p i a b : Nat) (hp : p + bs.length ≤ N.length) (hi : 512 * i + 512 ≤ N.length) (ha : a = p - 512 * i) (hb : b = min 512 (p + bs.length - 512 * i)) (hab : a ≤ b) (h1 : 512 * i < p + bs.length) (h2 : p < 512 * i + 512) :
    (secAt i N).take a ++ ((bs.drop (512 * i + a - p)).take (b - a) ++ (secAt i N).drop b) = secAt i (splice N p bs) := by
  have hs : (secAt i N).length = 512 := secAt_length hi
  apply List.ext_getElem?
  intro j
  rw [secAt_get, List.getElem?_append, List.length_take, hs]
  by_cases hj : j < 512
  · rw [if_pos hj, splice_get _ _ _ hp]
    by_cases c1 : j < a
    · rw [if_pos (by omega), List.getElem?_take, if_pos c1, secAt_get, if_pos hj, if_pos (by omega)]
    · rw [if_neg (by omega), List.getElem?_append, List.length_take, List.length_drop]
      by_cases c2 : j < b
      · rw [if_pos (by omega), List.getElem?_take, if_pos (by omega), List.getElem?_drop, if_neg (by omega), if_pos (by omega)]
        congr 1
        omega
      · rw [if_neg (by omega), List.getElem?_drop, secAt_get, if_pos (by omega), if_neg (by omega), if_neg (by omega)]
        congr 1
        omega
  · rw [if_neg hj, if_neg (by omega), List.getElem?_append, if_neg (by rw [List.length_take, List.length_drop]; omega), List.getElem?_drop, List.length_take, List.length_drop, secAt_get, if_neg (by omega)]
end Go.Proofs.Ytjedhemjojcekaa
