/- Three numbers between a mark and the sum, plainly: what is read where they are all there, where not, and where they were put. -/
import Derived.Test.YtnccbnadfgilaaaKTake3
import Derived.Test.YtnccbnadfgilaaaKPut3
namespace Go.Proofs.Ytnccbnadfgilaaa
open Go.RowKit CrcP FieldP

theorem three_short {bs : List UInt8} {p : Nat} (h : bs.length < p + 20) : threeR bs p = 2 := by
  unfold threeR chkN
  rw [if_pos ?_]
  cases hb : ((stK bs (openS bs p) 3).num bs 4).2.bad with
  | true => rfl
  | false =>
    exfalso
    obtain ⟨h1, h2, _⟩ := num_good hb
    obtain ⟨h3, _, h4⟩ := num_good (s := stK bs (openS bs p) 2) (k := 4) h1
    obtain ⟨h5, _, h6⟩ := num_good (s := stK bs (openS bs p) 1) (k := 4) h3
    obtain ⟨h7, _, h8⟩ := num_good (s := stK bs (openS bs p) 0) (k := 4) h5
    obtain ⟨_, _, h10⟩ := row_good (s := ⟨p, false⟩) (k := 4) h7
    have e3 : (stK bs (openS bs p) 3).p = (stK bs (openS bs p) 2).p + 4 := h4
    have e2 : (stK bs (openS bs p) 2).p = (stK bs (openS bs p) 1).p + 4 := h6
    have e1 : (stK bs (openS bs p) 1).p = (stK bs (openS bs p) 0).p + 4 := h8
    have e0 : (stK bs (openS bs p) 0).p = p + 4 := h10
    omega

theorem three_there {bs : List UInt8} {p : Nat} (h : p + 20 ≤ bs.length) : threeR bs p = if val ((bs.drop (p + 16)).take 4) = sumN ((bs.drop p).take 16) then 0 else 4 := by
  unfold threeR chkN
  rw [openS_there (by omega), stK_there 3 (by omega), num_there (by omega)]
  simp only [Bool.false_eq_true, if_false]
  have e1 : p + 4 + 4 * 3 = p + 16 := by omega
  have e2 : p + 16 - p = 16 := by omega
  rw [e1, e2]
theorem three_va {bs : List UInt8} {p k : Nat} (h : p + 20 ≤ bs.length) (hk : k < 3) : vaK bs (openS bs p) k = val ((bs.drop (p + 4 + 4 * k)).take 4) := by
  rw [openS_there (by omega), vaK_there (by omega)]

theorem threeB_length (mk : List UInt8) (a b c : Nat) (h : mk.length = 4) : (threeB mk a b c).length = 20 := by
  unfold threeB
  rw [sealed_length]
  simp [putN_length, h]
/-- What was put is read. -/
theorem three_back {bs mk : List UInt8} {p a b c : Nat} (hm : mk.length = 4) (ha : a < 4294967296) (hb : b < 4294967296) (hc : c < 4294967296) (h : (bs.drop p).take 20 = threeB mk a b c) :
    p + 20 ≤ bs.length ∧ (bs.drop p).take 4 = mk ∧ threeR bs p = 0 ∧ vaK bs (openS bs p) 0 = a ∧ vaK bs (openS bs p) 1 = b ∧ vaK bs (openS bs p) 2 = c := by
  have hl : p + 20 ≤ bs.length := by
    have := congrArg List.length h
    rw [threeB_length _ _ _ _ hm, List.length_take, List.length_drop] at this
    omega
  have hX : threeB mk a b c = mk ++ (putN a 4 ++ (putN b 4 ++ (putN c 4 ++ putN (sumN (mk ++ putN a 4 ++ putN b 4 ++ putN c 4)) 4))) := by
    unfold threeB sealed
    simp [List.append_assoc]
  have hsum := sumN_lt (mk ++ putN a 4 ++ putN b 4 ++ putN c 4)
  have h16 : (threeB mk a b c).take 16 = mk ++ putN a 4 ++ putN b 4 ++ putN c 4 := by
    unfold threeB sealed
    exact app_take (by simp [putN_length, hm])
  have d0 : (threeB mk a b c).take 4 = mk := by rw [hX]; exact app_take hm
  have d4 : ((threeB mk a b c).drop 4).take 4 = putN a 4 := by rw [hX, app_drop hm]; exact app_take (putN_length _ _)
  have d8 : ((threeB mk a b c).drop 8).take 4 = putN b 4 := by
    rw [hX, show (8 : Nat) = 4 + 4 from rfl, ← List.drop_drop, app_drop hm, app_drop (putN_length _ _)]
    exact app_take (putN_length _ _)
  have d12 : ((threeB mk a b c).drop 12).take 4 = putN c 4 := by
    rw [hX, show (12 : Nat) = 4 + (4 + 4) from rfl, ← List.drop_drop, ← List.drop_drop, app_drop hm, app_drop (putN_length _ _), app_drop (putN_length _ _)]
    exact app_take (putN_length _ _)
  have d16 : ((threeB mk a b c).drop 16).take 4 = putN (sumN (mk ++ putN a 4 ++ putN b 4 ++ putN c 4)) 4 := by
    unfold threeB sealed
    rw [app_drop (by simp [putN_length, hm])]
    exact List.take_of_length_le (by rw [putN_length]; omega)
  refine ⟨hl, ?_, ?_, ?_, ?_, ?_⟩
  · have := cut_in (i := 0) (k := 4) h (by omega)
    rwa [Nat.add_zero, List.drop_zero, d0] at this
  · rw [three_there hl, cut_in (i := 16) (k := 4) h (by omega), d16, val_put4 hsum]
    have := cut_in (i := 0) (k := 16) h (by omega)
    rw [Nat.add_zero, List.drop_zero, h16] at this
    rw [this, if_pos rfl]
  · rw [three_va hl (by omega), Nat.mul_zero, Nat.add_zero, cut_in (i := 4) (k := 4) h (by omega), d4, val_put4 ha]
  · rw [three_va hl (by omega), show p + 4 + 4 * 1 = p + 8 by omega, cut_in (i := 8) (k := 4) h (by omega), d8, val_put4 hb]
  · rw [three_va hl (by omega), show p + 4 + 4 * 2 = p + 12 by omega, cut_in (i := 12) (k := 4) h (by omega), d12, val_put4 hc]
end Go.Proofs.Ytnccbnadfgilaaa
