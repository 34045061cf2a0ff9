/- Layer 16, plainly: what was taken is put as it was. -/
import Derived.Test.YtlbhflhmakdfmaaDoorLcPl
import Derived.Test.YtlbhflhmakdfmaaDoorCrcRes
namespace Go.Proofs.YtlbhflhmakdfmaaDoor
open Go.RowKit CrcP FieldP

theorem putN_cut {bs : List UInt8} {p k : Nat} (h : p + k ≤ bs.length) : putN (val ((bs.drop p).take k)) k = (bs.drop p).take k := by
  have hl : ((bs.drop p).take k).length = k := by rw [List.length_take, List.length_drop]; omega
  have := putN_val ((bs.drop p).take k)
  rwa [hl] at this
theorem lc_taken {bs : List UInt8} {p : Nat} (hi : isB headBytes bs p = true) (h : lcR bs p = 0) :
    p + 22 + (lcX bs p).1.length ≤ bs.length ∧ hdB (lcN bs (openS bs p) 0 : Nat) (lcX bs p).1 (lcN bs (openS bs p) 2 : Nat) (lcN bs (openS bs p) 3 : Nat) (lcN bs (openS bs p) 4 : Nat) = true ∧
      (bs.drop p).take (22 + (lcX bs p).1.length) = headB (lcN bs (openS bs p) 0) (lcX bs p).1 (lcN bs (openS bs p) 2) (lcN bs (openS bs p) 3) (lcN bs (openS bs p) 4) ∧ ((lcX bs p).2.num bs 4).2.p = p + 22 + (lcX bs p).1.length := by
  have hc : chkN bs p (lcX bs p).2 = 0 := by
    unfold lcR at h
    split at h
    · assumption
    · exact h
  have hd : lcHd bs p = true := by
    unfold lcR at h
    rw [if_pos hc] at h
    split at h
    · assumption
    · cases h
  have hb : ((lcX bs p).2.num bs 4).2.bad = false := by
    unfold chkN at hc
    split at hc
    · cases hc
    · rename_i hn; simpa using hn
  have hv : ((lcX bs p).2.num bs 4).1 = sumN ((bs.drop p).take ((lcX bs p).2.p - p)) := by
    unfold chkN at hc
    rw [if_neg (by rw [hb]; decide)] at hc
    split at hc
    · assumption
    · cases hc
  obtain ⟨g6, l6, q6⟩ := num_good hb
  obtain ⟨g5, l5, q5⟩ := row_good (s := lcS bs (openS bs p) 5) (k := lcN bs (openS bs p) 1) g6
  obtain ⟨g4, l4, q4⟩ := num_good (s := lcS bs (openS bs p) 4) (k := wid 4) g5
  obtain ⟨g3, l3, q3⟩ := num_good (s := lcS bs (openS bs p) 3) (k := wid 3) g4
  obtain ⟨g2, l2, q2⟩ := num_good (s := lcS bs (openS bs p) 2) (k := wid 2) g3
  obtain ⟨g1, l1, q1⟩ := num_good (s := lcS bs (openS bs p) 1) (k := wid 1) g2
  obtain ⟨g0, l0, q0⟩ := num_good (s := lcS bs (openS bs p) 0) (k := wid 0) g1
  obtain ⟨_, lo, qo⟩ := row_good (s := ⟨p, false⟩) (k := 4) g0
  have w0 : wid 0 = 1 := rfl
  have w1 : wid 1 = 1 := rfl
  have w2 : wid 2 = 4 := rfl
  have w3 : wid 3 = 4 := rfl
  have w4 : wid 4 = 4 := rfl
  have p0 : (lcS bs (openS bs p) 0).p = p + 4 := qo
  have p1 : (lcS bs (openS bs p) 1).p = p + 5 := by have : (lcS bs (openS bs p) 1).p = (lcS bs (openS bs p) 0).p + wid 0 := q0; omega
  have p2 : (lcS bs (openS bs p) 2).p = p + 6 := by have : (lcS bs (openS bs p) 2).p = (lcS bs (openS bs p) 1).p + wid 1 := q1; omega
  have p3 : (lcS bs (openS bs p) 3).p = p + 10 := by have : (lcS bs (openS bs p) 3).p = (lcS bs (openS bs p) 2).p + wid 2 := q2; omega
  have p4 : (lcS bs (openS bs p) 4).p = p + 14 := by have : (lcS bs (openS bs p) 4).p = (lcS bs (openS bs p) 3).p + wid 3 := q3; omega
  have p5 : (lcS bs (openS bs p) 5).p = p + 18 := by have : (lcS bs (openS bs p) 5).p = (lcS bs (openS bs p) 4).p + wid 4 := q4; omega
  have p6 : (lcX bs p).2.p = p + 18 + lcN bs (openS bs p) 1 := by have : (lcX bs p).2.p = (lcS bs (openS bs p) 5).p + lcN bs (openS bs p) 1 := q5; omega
  have hn : ∀ k q, lcS bs (openS bs p) k = ⟨q, false⟩ → q + wid k ≤ bs.length → lcN bs (openS bs p) k = val ((bs.drop q).take (wid k)) := fun k q e hl => (lcS_next e hl).2
  have st : ∀ (s : RSt) q, s.p = q → s.bad = false → s = ⟨q, false⟩ := fun s q h1 h2 => by cases s; subst h1; subst h2; rfl
  have n0 := hn 0 _ (st _ _ p0 g0) (by omega)
  have n1 := hn 1 _ (st _ _ p1 g1) (by omega)
  have n2 := hn 2 _ (st _ _ p2 g2) (by omega)
  have n3 := hn 3 _ (st _ _ p3 g3) (by omega)
  have n4 := hn 4 _ (st _ _ p4 g4) (by omega)
  have hX : lcX bs p = ((bs.drop (p + 18)).take (lcN bs (openS bs p) 1), ⟨p + 18 + lcN bs (openS bs p) 1, false⟩) := by
    unfold lcX
    rw [st _ _ p5 g5]
    exact row_there (by omega)
  have hXl : (lcX bs p).1.length = lcN bs (openS bs p) 1 := by rw [hX]; show ((bs.drop (p + 18)).take _).length = _; rw [List.length_take, List.length_drop]; omega
  have hS : val ((bs.drop (p + 18 + lcN bs (openS bs p) 1)).take 4) = sumN ((bs.drop p).take (18 + lcN bs (openS bs p) 1)) := by
    rw [hX] at hv
    rw [num_there (by omega)] at hv
    show (val ((bs.drop (p + 18 + lcN bs (openS bs p) 1)).take 4), (⟨p + 18 + lcN bs (openS bs p) 1 + 4, false⟩ : RSt)).1 = _
    rw [hv]
    congr 2
    show p + 18 + lcN bs (openS bs p) 1 - p = _
    omega
  have hM : (bs.drop p).take 4 = headBytes := by
    rw [isB_in (by show p + 4 ≤ _; omega)] at hi
    exact of_decide_eq_true hi
  have hbody : (bs.drop p).take (18 + lcN bs (openS bs p) 1) = hdF (lcN bs (openS bs p) 0) (lcX bs p).1.length (lcN bs (openS bs p) 2) (lcN bs (openS bs p) 3) (lcN bs (openS bs p) 4) 5 ++ (lcX bs p).1 := by
    rw [hXl]
    show _ = headBytes ++ putN (lcN bs (openS bs p) 0) 1 ++ putN (lcN bs (openS bs p) 1) 1 ++ putN (lcN bs (openS bs p) 2) 4 ++ putN (lcN bs (openS bs p) 3) 4 ++ putN (lcN bs (openS bs p) 4) 4 ++ (lcX bs p).1
    have e0 : putN (lcN bs (openS bs p) 0) 1 = (bs.drop (p + 4)).take 1 := by rw [n0]; exact putN_cut (by omega)
    have e1 : putN (lcN bs (openS bs p) 1) 1 = (bs.drop (p + 5)).take 1 := by rw [n1]; exact putN_cut (by omega)
    have e2 : putN (lcN bs (openS bs p) 2) 4 = (bs.drop (p + 6)).take 4 := by rw [n2]; exact putN_cut (by omega)
    have e3 : putN (lcN bs (openS bs p) 3) 4 = (bs.drop (p + 10)).take 4 := by rw [n3]; exact putN_cut (by omega)
    have e4 : putN (lcN bs (openS bs p) 4) 4 = (bs.drop (p + 14)).take 4 := by rw [n4]; exact putN_cut (by omega)
    have e5 : (lcX bs p).1 = (bs.drop (p + 18)).take (lcN bs (openS bs p) 1) := by rw [hX]
    have t : ∀ a b, (bs.drop p).take (a + b) = (bs.drop p).take a ++ (bs.drop (p + a)).take b := fun a b => by rw [List.take_add, List.drop_drop]
    rw [e0, e1, e2, e3, e4, e5, ← hM, ← t 4 1, ← t 5 1, ← t 6 4, ← t 10 4, ← t 14 4, ← t 18]
  refine ⟨by omega, hd, ?_, by rw [hXl]; omega⟩
  have hF : (bs.drop p).take (22 + (lcX bs p).1.length) = (bs.drop p).take (18 + lcN bs (openS bs p) 1) ++ (bs.drop (p + (18 + lcN bs (openS bs p) 1))).take 4 := by
    rw [show 22 + (lcX bs p).1.length = 18 + lcN bs (openS bs p) 1 + 4 by omega, List.take_add, List.drop_drop]
  rw [hF]
  unfold headB sealed
  rw [← hbody, ← hS, ← Nat.add_assoc]
  congr 1
  exact (putN_cut (by omega)).symm
end Go.Proofs.YtlbhflhmakdfmaaDoor
