/- Layer 17, plainly: what was put is taken. -/
import Derived.Test.YtlbhflhmakdfmaaDoorStTake
namespace Go.Proofs.YtlbhflhmakdfmaaDoor
open Go.RowKit CrcP FieldP

theorem tombB_parts (l : List UInt8) : tombB l = tombBytes ++ (putN l.length 1 ++ (l ++ putN (sumN (tombBytes ++ putN l.length 1 ++ l)) 4)) := by
  unfold tombB sealed
  simp [List.append_assoc]
theorem val_put1 {n : Nat} (h : n < 256) : val (putN n 1) = n := by rw [val_putN]; exact Nat.mod_eq_of_lt h
theorem tomb_back {bs l : List UInt8} {p : Nat} (hr : rightB l = true) (h : (bs.drop p).take (9 + l.length) = tombB l) :
    p + 9 + l.length ≤ bs.length ∧ isB tombBytes bs p = true ∧ stR bs p = 0 ∧ (stS2 bs p).1 = l ∧ ((stS2 bs p).2.num bs 4).2.p = p + 9 + l.length := by
  obtain ⟨_, h64⟩ := rightB_len hr
  have hl : p + 9 + l.length ≤ bs.length := by
    have := congrArg List.length h
    rw [tombB_length, List.length_take, List.length_drop] at this
    omega
  have hX := tombB_parts l
  have hsum := sumN_lt (tombBytes ++ putN l.length 1 ++ l)
  have d0 : (tombB l).take 4 = tombBytes := by rw [hX]; exact app_take rfl
  have d4 : ((tombB l).drop 4).take 1 = putN l.length 1 := by rw [hX, app_drop (n := 4) rfl]; exact app_take (putN_length _ _)
  have d5 : ((tombB l).drop 5).take l.length = l := by
    rw [hX, show (5 : Nat) = 4 + 1 from rfl, ← List.drop_drop, app_drop (n := 4) rfl, app_drop (putN_length _ _)]
    exact app_take rfl
  have dn : ((tombB l).drop (5 + l.length)).take 4 = putN (sumN (tombBytes ++ putN l.length 1 ++ l)) 4 := by
    unfold tombB sealed
    rw [app_drop (by simp [putN_length, tombBytes]; omega)]
    exact List.take_of_length_le (by rw [putN_length]; omega)
  have dh : (tombB l).take (5 + l.length) = tombBytes ++ putN l.length 1 ++ l := by
    unfold tombB sealed
    exact app_take (by simp [putN_length, tombBytes]; omega)
  have e0 : openS bs p = ⟨p + 4, false⟩ := openS_there (by omega)
  have e1 : stS1 bs p = (l.length, ⟨p + 5, false⟩) := by
    unfold stS1
    rw [e0, num_there (by omega), cut_in (i := 4) (k := 1) h (by omega), d4, val_put1 (by omega)]
  have e2 : stS2 bs p = (l, ⟨p + 5 + l.length, false⟩) := by
    unfold stS2
    rw [e1]
    show RSt.row bs ⟨p + 5, false⟩ l.length = _
    rw [row_there (by omega), cut_in (i := 5) (k := l.length) h (by omega), d5]
  have e3 : (stS2 bs p).2.num bs 4 = (sumN (tombBytes ++ putN l.length 1 ++ l), ⟨p + 5 + l.length + 4, false⟩) := by
    rw [e2]
    show RSt.num bs ⟨p + 5 + l.length, false⟩ 4 = _
    rw [num_there (by omega), show p + 5 + l.length = p + (5 + l.length) by omega, cut_in (i := 5 + l.length) (k := 4) h (by omega), dn, val_put4 hsum]
  have e4 : chkN bs p (stS2 bs p).2 = 0 := by
    unfold chkN
    rw [e3]
    rw [if_neg (by simp), if_pos ?_]
    rw [e2]
    show _ = sumN ((bs.drop p).take (p + 5 + l.length - p))
    rw [show p + 5 + l.length - p = 5 + l.length by omega]
    have := cut_in (i := 0) (k := 5 + l.length) h (by omega)
    rw [Nat.add_zero, List.drop_zero, dh] at this
    rw [this]
  refine ⟨hl, ?_, ?_, by rw [e2], by rw [e3]; show p + 5 + l.length + 4 = _; omega⟩
  · rw [isB_in (by show p + 4 ≤ _; omega)]
    have := cut_in (i := 0) (k := 4) h (by omega)
    rw [Nat.add_zero, List.drop_zero, d0] at this
    exact decide_eq_true this
  · unfold stR
    rw [if_pos e4, e2, if_pos hr]
theorem stV_back {bs l : List UInt8} {p : Nat} (hr : rightB l = true) (h : (bs.drop p).take (9 + l.length) = tombB l) :
    stV bs p = .tuple #[.string ⟨l.toArray⟩, .int .i64 ((p + 9 + l.length : Nat) : Int), .int .i64 0] := by
  obtain ⟨_, _, h1, h2, h3⟩ := tomb_back hr h
  rw [stV_good h1, h2, h3]

def textA : ByteArray := ⟨#[97]⟩
theorem textA_right : rightB textA.data.toList = true := by decide
end Go.Proofs.YtlbhflhmakdfmaaDoor
