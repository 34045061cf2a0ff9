/- Layer 4, plainly: sectors behind a crash and behind a write. -/
import Derived.Test.YtjedhemjojcekaaDiskRr
namespace Go.Proofs.Ytjedhemjojcekaa
open Go.RowKit

theorem sectors_get (l : List UInt8) (i : Nat) (h : i < l.length / 512) : (sectors l)[i]? = some (secAt i l) := by
  unfold sectors
  rw [List.getElem?_map, List.getElem?_range h]
  rfl
theorem sectors_ext {l m : List UInt8} (hl : l.length / 512 = m.length / 512) (h : ∀ i, i < l.length / 512 → secAt i l = secAt i m) : sectors l = sectors m := by
  unfold sectors
  rw [← hl]
  apply List.map_congr_left
  intro i hi
  exact h i (List.mem_range.1 hi)
theorem spl_sec (f n fill j : Nat) (h : j < n) : secAt j (spl f n fill) = spoilt 512 (f + j) fill := by
  induction n with
  | zero => omega
  | succ n ih =>
    rw [spl_succ]
    unfold secAt at *
    by_cases hj : j < n
    · rw [← ih hj, List.drop_append_of_le_length (by rw [spl_length]; omega), List.take_append_of_le_length (by rw [List.length_drop, spl_length]; omega)]
    · obtain rfl : j = n := by omega
      have e : (spl f j fill).length = 512 * j := spl_length f j fill
      rw [List.drop_append, List.drop_of_length_le (by omega), e, Nat.sub_self, List.nil_append, List.drop_zero]
      exact List.take_of_length_le (by rw [spoilt_length]; omega)
/-- A sector behind a crash, without what is kept. -/
theorem base_sec {now safe : List UInt8} {waits : List (Nat × List UInt8)} (h : Good now safe waits) (fill i : Nat) (hi : i < now.length / 512) :
    secAt i (baseNow now safe fill) = if i < safe.length / 512 then secAt i safe else spoilt 512 i fill := by
  have h1 := h.m1
  have h2 := h.m2
  have h3 := h.le
  have e : (splice now 0 safe).length = now.length := length_splice _ _ _ (by omega)
  unfold baseNow
  apply List.ext_getElem?
  intro j
  by_cases hj : j < 512
  · rw [secAt_get, if_pos hj, splice_get _ _ _ (by rw [spl_length, e]; omega)]
    by_cases hs : i < safe.length / 512
    · rw [if_pos hs, if_pos (by omega), splice_get _ _ _ (by omega), if_neg (by omega), if_pos (by omega), secAt_get, if_pos hj]
      rfl
    · rw [if_neg hs, if_neg (by omega), if_pos (by rw [spl_length]; omega)]
      have := spl_sec (safe.length / 512) (now.length / 512 - safe.length / 512) fill (i - safe.length / 512) (by omega)
      rw [show safe.length / 512 + (i - safe.length / 512) = i by omega] at this
      rw [← this, secAt_get, if_pos hj]
      congr 1
      omega
  · rw [secAt_get, if_neg hj]
    split
    · rw [secAt_get, if_neg hj]
    · rw [List.getElem?_eq_none (by rw [spoilt_length]; omega)]
end Go.Proofs.Ytjedhemjojcekaa
