/- Layer 20, plainly: a burst in a whole directory. -/
import Derived.Test.YthnoobhjkhafcaaDoorFtPl
import Derived.Test.YthnoobhjkhafcaaDoorKFlip
namespace Go.Proofs.YthnoobhjkhafcaaDoor
open Go.RowKit CrcP FieldP

theorem bitAt_app1 {D F : List UInt8} {q : Nat} (h : q / 8 < D.length) : bitAt (D ++ F) q = bitAt D q := by
  unfold bitAt
  rw [List.getElem?_append_left h]
theorem bitAt_app2 (D F : List UInt8) (q : Nat) : bitAt (D ++ F) (8 * D.length + q) = bitAt F q := by
  unfold bitAt
  rw [List.getElem?_append_right (by omega), show (8 * D.length + q) / 8 - D.length = q / 8 by omega, show (8 * D.length + q) % 8 = q % 8 by omega]
theorem bitAt_take {X : List UInt8} {n q : Nat} (h : q / 8 < n) : bitAt (X.take n) q = bitAt X q := by
  unfold bitAt
  rw [List.getElem?_take, if_pos h]
theorem bitAt_drop (X : List UInt8) (n q : Nat) : bitAt (X.drop n) q = bitAt X (8 * n + q) := by
  unfold bitAt
  rw [List.getElem?_drop, show (8 * n + q) / 8 = n + q / 8 by omega, show (8 * n + q) % 8 = q % 8 by omega]
theorem flip_take (D F : List UInt8) (a bits : Nat) : (flipK (D ++ F) a bits 32).take D.length = flipK D a bits 32 := by
  apply bits_ext (by rw [List.length_take, length_flipK, length_flipK, List.length_append]; omega)
  intro q hq
  rw [List.length_take, length_flipK, List.length_append] at hq
  have h1 : q / 8 < D.length := by omega
  rw [bitAt_take h1, bitAt_flipK _ _ _ _ (by rw [List.length_append]; omega), bitAt_flipK _ _ _ _ h1, bitAt_app1 h1]
theorem flip_drop (D F : List UInt8) (a bits : Nat) (hb : bits < 4294967296) : ∃ a' bits', (flipK (D ++ F) a bits 32).drop D.length = flipK F a' bits' 32 := by
  by_cases h : 8 * D.length ≤ a
  · refine ⟨a - 8 * D.length, bits, ?_⟩
    apply bits_ext (by rw [List.length_drop, length_flipK, length_flipK, List.length_append]; omega)
    intro q hq
    rw [List.length_drop, length_flipK, List.length_append] at hq
    have h1 : q / 8 < F.length := by omega
    rw [bitAt_drop, bitAt_flipK _ _ _ _ (by rw [List.length_append]; omega), bitAt_flipK _ _ _ _ h1, bitAt_app2]
    congr 1
    rw [show decide (a ≤ 8 * D.length + q) = decide (a - 8 * D.length ≤ q) by (rw [Bool.eq_iff_iff]; simp; omega), show decide (8 * D.length + q < a + 32) = decide (q < a - 8 * D.length + 32) by (rw [Bool.eq_iff_iff]; simp; omega), show 8 * D.length + q - a = q - (a - 8 * D.length) by omega]
  · obtain ⟨s, hs⟩ : ∃ s, 8 * D.length - a = s := ⟨_, rfl⟩
    refine ⟨0, bits >>> s, ?_⟩
    apply bits_ext (by rw [List.length_drop, length_flipK, length_flipK, List.length_append]; omega)
    intro q hq
    rw [List.length_drop, length_flipK, List.length_append] at hq
    have h1 : q / 8 < F.length := by omega
    rw [bitAt_drop, bitAt_flipK _ _ _ _ (by rw [List.length_append]; omega), bitAt_flipK _ _ _ _ h1, bitAt_app2]
    congr 1
    rw [Nat.testBit_shiftRight, decide_eq_true (show a ≤ 8 * D.length + q by omega), decide_eq_true (Nat.zero_le q), Bool.true_and, Bool.true_and, show 8 * D.length + q - a = s + (q - 0) by omega]
    by_cases hq : 8 * D.length + q < a + 32
    · rw [decide_eq_true hq, decide_eq_true (show q < 0 + 32 by omega)]
    · have ht : bits.testBit (s + (q - 0)) = false := Nat.testBit_lt_two_pow (Nat.lt_of_lt_of_le hb (by
        have : (4294967296 : Nat) = 2 ^ 32 := by decide
        rw [this]
        exact Nat.pow_le_pow_right (by decide) (by omega)))
      rw [ht, Bool.and_false, Bool.and_false]
/-- A whole directory of which something within 32 bits is changed is refused. -/
theorem foot_flip {ms : List LM} {a bits : Nat} (hb : bits < 4294967296) (h : rdR (flipK (footAll ms) a bits 32) = 0) : footAll ms = flipK (footAll ms) a bits 32 := by
  obtain ⟨c, hc⟩ : ∃ c, flipK (footAll ms) a bits 32 = c := ⟨_, rfl⟩
  rw [hc] at h ⊢
  have hlen : c.length = rowsM ms + 20 := by rw [← hc, length_flipK, footAll_length]
  have hp : c.length - 20 = rowsM ms := by omega
  have hdl := dirB_length ms
  have htk : c.take (rowsM ms) = flipK (dirB ms) a bits 32 := by rw [← hc, ← hdl]; exact flip_take _ _ _ _
  obtain ⟨a', bits', hdr⟩ := flip_drop (dirB ms) (footB ms.length (rowsM ms) (sumN (dirB ms) : Nat)) a bits hb
  have hdr' : c.drop (rowsM ms) = flipK (footB ms.length (rowsM ms) (sumN (dirB ms) : Nat)) a' bits' 32 := by rw [← hc]; rw [hdl] at hdr; exact hdr
  unfold rdR at h
  split at h
  · rename_i h1; exact absurd h h1
  rename_i h1
  have h1 : ftR c = 0 := by simpa using h1
  split at h
  · cases h
  split at h
  · cases h
  rename_i h3
  have h3 : ftN c 2 = sumN (c.take (c.length - 20)) := by simpa using h3
  obtain ⟨g20, gi, g3, _⟩ := ftR_good h1
  rw [hp] at g3 h3
  have hS : val ((c.drop (rowsM ms + 16)).take 4) = sumN ((c.drop (rowsM ms)).take 16) := by
    rw [three_there (by omega)] at g3
    split at g3
    · assumption
    · cases g3
  have hF : footB ms.length (rowsM ms) (sumN (dirB ms) : Nat) = c.drop (rowsM ms) := by
    rw [hdr']
    refine burst_sealed (m := footBytes ++ putN ((ms.length : Int).toNat) 4 ++ putN ((rowsM ms : Int).toNat) 4 ++ putN (((sumN (dirB ms) : Nat) : Int).toNat) 4) (k := 16) (footB_length' _ _ _) ?_
    have := hS
    rw [← List.drop_drop, hdr'] at this
    exact this
  have hz : ftN c 2 = sumN (dirB ms) := by
    have e : ftN c 2 = val ((c.drop (rowsM ms + 12)).take 4) := by unfold ftN; rw [hp]; exact three_va (by omega) (by omega)
    rw [e, ← List.drop_drop, ← hF]
    have hslt := sumN_lt (dirB ms)
    have : ((footB (ms.length : Int) (rowsM ms : Int) ((sumN (dirB ms) : Nat) : Int)).drop 12).take 4 = putN (sumN (dirB ms)) 4 :=
      mid_of (l1 := footBytes ++ putN ms.length 4 ++ putN (rowsM ms) 4) (l2 := putN (sumN (footBytes ++ putN ms.length 4 ++ putN (rowsM ms) 4 ++ putN (sumN (dirB ms)) 4)) 4) rfl (by simp [putN_length, footBytes]) (putN_length _ _)
    rw [this, val_put4 hslt]
  have hD : dirB ms = c.take (rowsM ms) := by
    rw [hz, htk] at h3
    rw [htk]
    by_cases ha : a / 8 < (dirB ms).length
    · exact (burst (dirB ms) a bits ha).1 h3.symm
    · apply bits_ext (by rw [length_flipK])
      intro q hq
      rw [bitAt_flipK _ _ _ _ (by omega), decide_eq_false (show ¬ a ≤ q by omega), Bool.false_and, Bool.xor_false]
  unfold footAll
  rw [hF, hD, List.take_append_drop]
end Go.Proofs.YthnoobhjkhafcaaDoor
