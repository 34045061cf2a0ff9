/- Layer 17, plainly: what any bytes hold. -/
import Derived.Test.YtlbhflhmakdfmaaDoorStPl
namespace Go.Proofs.YtlbhflhmakdfmaaDoor
open Go.RowKit CrcP FieldP

theorem num_bad {bs : List UInt8} {s : RSt} {k : Nat} (h : s.bad = true) : (s.num bs k).2.bad = true := by unfold RSt.num; rw [if_pos h]; exact h
theorem row_bad {bs : List UInt8} {s : RSt} {k : Nat} (h : s.bad = true) : (s.row bs k).2.bad = true := by unfold RSt.row; rw [if_pos h]; exact h
theorem num_cut {bs : List UInt8} {s : RSt} {k : Nat} (h : bs.length < s.p + k) : (s.num bs k).2.bad = true := by
  unfold RSt.num
  by_cases hb : s.bad = true
  · rw [if_pos hb]; exact hb
  · rw [if_neg hb, if_neg (by omega)]
theorem row_cut {bs : List UInt8} {s : RSt} {k : Nat} (h : bs.length < s.p + k) : (s.row bs k).2.bad = true := by
  unfold RSt.row
  by_cases hb : s.bad = true
  · rw [if_pos hb]; exact hb
  · rw [if_neg hb, if_neg (by omega)]
theorem chkN_bad {bs : List UInt8} {p : Nat} {s : RSt} (h : (s.num bs 4).2.bad = true) : chkN bs p s = 2 := by unfold chkN; rw [if_pos h]
theorem stR_of {bs : List UInt8} {p : Nat} (h : ((stS2 bs p).2.num bs 4).2.bad = true) : stR bs p = 2 := by
  unfold stR
  rw [chkN_bad h]
  rfl
theorem stR_short {bs : List UInt8} {p : Nat} (h : bs.length < p + 5) : stR bs p = 2 := by
  apply stR_of
  apply num_bad
  apply row_bad
  unfold stS1
  by_cases h4 : p + 4 ≤ bs.length
  · rw [openS_there h4]
    exact num_cut (by show _ < p + 4 + 1; omega)
  · exact num_bad (row_cut (s := ⟨p, false⟩) (by show _ < p + 4; omega))
theorem take_one {bs : List UInt8} {k : Nat} {x : UInt8} (h : bs[k]? = some x) : (bs.drop k).take 1 = [x] := by
  obtain ⟨h1, h2⟩ := List.getElem?_eq_some_iff.1 h
  rw [List.drop_eq_getElem_cons h1, h2]
  rfl
theorem stS1_there {bs : List UInt8} {p : Nat} {x : UInt8} (h : bs[p + 4]? = some x) : stS1 bs p = (x.toNat, ⟨p + 5, false⟩) := by
  obtain ⟨h1, _⟩ := List.getElem?_eq_some_iff.1 h
  unfold stS1
  rw [openS_there (by omega), num_there (by omega), take_one h]
  simp [val]
theorem stR_mid {bs : List UInt8} {p : Nat} {x : UInt8} (h : bs[p + 4]? = some x) (hl : bs.length < p + 9 + x.toNat) : stR bs p = 2 := by
  apply stR_of
  unfold stS2
  rw [stS1_there h]
  show ((RSt.row bs ⟨p + 5, false⟩ x.toNat).2.num bs 4).2.bad = true
  by_cases h5 : p + 5 + x.toNat ≤ bs.length
  · rw [row_there h5]
    exact num_cut (by show _ < p + 5 + x.toNat + 4; omega)
  · exact num_bad (row_cut (by show _ < p + 5 + x.toNat; omega))
theorem stS2_there {bs : List UInt8} {p : Nat} {x : UInt8} (h : bs[p + 4]? = some x) (hl : p + 9 + x.toNat ≤ bs.length) : stS2 bs p = ((bs.drop (p + 5)).take x.toNat, ⟨p + 5 + x.toNat, false⟩) := by
  unfold stS2
  rw [stS1_there h]
  exact row_there (by show p + 5 + x.toNat ≤ _; omega)
theorem st_end {bs : List UInt8} {p : Nat} {x : UInt8} (h : bs[p + 4]? = some x) (hl : p + 9 + x.toNat ≤ bs.length) : ((stS2 bs p).2.num bs 4).2.p = p + 9 + x.toNat := by
  rw [stS2_there h hl]
  show (RSt.num bs ⟨p + 5 + x.toNat, false⟩ 4).2.p = _
  rw [num_there (by omega)]
  show p + 5 + x.toNat + 4 = _
  omega
theorem stR_full {bs : List UInt8} {p : Nat} {x : UInt8} (h : bs[p + 4]? = some x) (hl : p + 9 + x.toNat ≤ bs.length) :
    stR bs p = if val ((bs.drop (p + (5 + x.toNat))).take 4) = sumN ((bs.drop p).take (5 + x.toNat)) then (if rightB ((bs.drop (p + 5)).take x.toNat) = true then 0 else 6) else 4 := by
  have e : chkN bs p (stS2 bs p).2 = if val ((bs.drop (p + (5 + x.toNat))).take 4) = sumN ((bs.drop p).take (5 + x.toNat)) then 0 else 4 := by
    unfold chkN
    rw [stS2_there h hl]
    show (if (RSt.num bs ⟨p + 5 + x.toNat, false⟩ 4).2.bad = true then 2 else if (RSt.num bs ⟨p + 5 + x.toNat, false⟩ 4).1 = sumN ((bs.drop p).take (p + 5 + x.toNat - p)) then 0 else 4) = _
    rw [num_there (by omega), show p + 5 + x.toNat - p = 5 + x.toNat by omega, show p + 5 + x.toNat = p + (5 + x.toNat) by omega]
    rfl
  unfold stR
  rw [e, stS2_there h hl]
  by_cases hq : val ((bs.drop (p + (5 + x.toNat))).take 4) = sumN ((bs.drop p).take (5 + x.toNat))
  · rw [if_pos hq, if_pos rfl, if_pos hq]
  · rw [if_neg hq, if_neg (by omega), if_neg hq]
end Go.Proofs.YtlbhflhmakdfmaaDoor
