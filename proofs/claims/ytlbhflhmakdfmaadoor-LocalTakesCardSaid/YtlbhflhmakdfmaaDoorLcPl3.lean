/- Layer 16, plainly: what a reader tells of a head, case by case. -/
import Derived.Test.YtlbhflhmakdfmaaDoorLcTaken
import Derived.Test.YtlbhflhmakdfmaaDoorStPl2
namespace Go.Proofs.YtlbhflhmakdfmaaDoor
open Go.RowKit CrcP FieldP

theorem lcX_fine {bs : List UInt8} {p : Nat} (hb : ((lcX bs p).2.num bs 4).2.bad = false) : p + 18 ≤ bs.length ∧ p + 22 + val ((bs.drop (p + 5)).take 1) ≤ bs.length := by
  obtain ⟨g6, l6, q6⟩ := num_good hb
  obtain ⟨g5, l5, q5⟩ := row_good (s := lcS bs (openS bs p) 5) (k := lcN bs (openS bs p) 1) g6
  obtain ⟨g4, l4, q4⟩ := num_good (s := lcS bs (openS bs p) 4) (k := wid 4) g5
  obtain ⟨g3, l3, q3⟩ := num_good (s := lcS bs (openS bs p) 3) (k := wid 3) g4
  obtain ⟨g2, l2, q2⟩ := num_good (s := lcS bs (openS bs p) 2) (k := wid 2) g3
  obtain ⟨g1, l1, q1⟩ := num_good (s := lcS bs (openS bs p) 1) (k := wid 1) g2
  obtain ⟨g0, l0, q0⟩ := num_good (s := lcS bs (openS bs p) 0) (k := wid 0) g1
  obtain ⟨_, lo, qo⟩ := row_good (s := ⟨p, false⟩) (k := 4) g0
  have w0 : wid 0 = 1 := rfl
  have w1 : wid 1 = 1 := rfl
  have w2 : wid 2 = 4 := rfl
  have w3 : wid 3 = 4 := rfl
  have w4 : wid 4 = 4 := rfl
  have p0 : (lcS bs (openS bs p) 0).p = p + 4 := qo
  have p1 : (lcS bs (openS bs p) 1).p = p + 5 := by have : (lcS bs (openS bs p) 1).p = (lcS bs (openS bs p) 0).p + wid 0 := q0; omega
  have p2 : (lcS bs (openS bs p) 2).p = p + 6 := by have : (lcS bs (openS bs p) 2).p = (lcS bs (openS bs p) 1).p + wid 1 := q1; omega
  have p3 : (lcS bs (openS bs p) 3).p = p + 10 := by have : (lcS bs (openS bs p) 3).p = (lcS bs (openS bs p) 2).p + wid 2 := q2; omega
  have p4 : (lcS bs (openS bs p) 4).p = p + 14 := by have : (lcS bs (openS bs p) 4).p = (lcS bs (openS bs p) 3).p + wid 3 := q3; omega
  have p5 : (lcS bs (openS bs p) 5).p = p + 18 := by have : (lcS bs (openS bs p) 5).p = (lcS bs (openS bs p) 4).p + wid 4 := q4; omega
  have p6 : (lcX bs p).2.p = p + 18 + lcN bs (openS bs p) 1 := by have : (lcX bs p).2.p = (lcS bs (openS bs p) 5).p + lcN bs (openS bs p) 1 := q5; omega
  have st : ∀ (s : RSt) q, s.p = q → s.bad = false → s = ⟨q, false⟩ := fun s q h1 h2 => by cases s; subst h1; subst h2; rfl
  have n1 := (lcS_next (st _ _ p1 g1) (by omega : p + 5 + wid 1 ≤ bs.length)).2
  rw [w1] at n1
  rw [← n1]
  exact ⟨by omega, by omega⟩
theorem lcR_end {bs : List UInt8} {p : Nat} (h : bs.length < p + 18 ∨ ∃ x : UInt8, bs[p + 5]? = some x ∧ bs.length < p + 22 + x.toNat) : lcR bs p = 2 := by
  have hb : ((lcX bs p).2.num bs 4).2.bad = true := by
    cases hb : ((lcX bs p).2.num bs 4).2.bad with
    | true => rfl
    | false =>
      obtain ⟨h1, h2⟩ := lcX_fine hb
      rcases h with h | ⟨x, hx, h⟩
      · omega
      · rw [take_one hx] at h2
        have : val [x] = x.toNat := by simp [val]
        omega
  unfold lcR
  rw [chkN_bad hb]
  rfl
theorem lc_there {bs : List UInt8} {p : Nat} {x : UInt8} (hx : bs[p + 5]? = some x) (hl : p + 18 ≤ bs.length) :
    lcS bs (openS bs p) 5 = ⟨p + 18, false⟩ ∧ lcN bs (openS bs p) 0 = val ((bs.drop (p + 4)).take 1) ∧ lcN bs (openS bs p) 1 = x.toNat ∧ lcN bs (openS bs p) 2 = val ((bs.drop (p + 6)).take 4) ∧
      lcN bs (openS bs p) 3 = val ((bs.drop (p + 10)).take 4) ∧ lcN bs (openS bs p) 4 = val ((bs.drop (p + 14)).take 4) := by
  have s0 : lcS bs (openS bs p) 0 = ⟨p + 4, false⟩ := openS_there (by omega)
  obtain ⟨s1, n0⟩ := lcS_next s0 (by show p + 4 + 1 ≤ _; omega)
  obtain ⟨s2, n1⟩ := lcS_next s1 (by show p + 4 + 1 + 1 ≤ _; omega)
  obtain ⟨s3, n2⟩ := lcS_next s2 (by show p + 4 + 1 + 1 + 4 ≤ _; omega)
  obtain ⟨s4, n3⟩ := lcS_next s3 (by show p + 4 + 1 + 1 + 4 + 4 ≤ _; omega)
  obtain ⟨s5, n4⟩ := lcS_next s4 (by show p + 4 + 1 + 1 + 4 + 4 + 4 ≤ _; omega)
  have n1' : lcN bs (openS bs p) 1 = val ((bs.drop (p + 5)).take 1) := n1
  rw [take_one hx] at n1'
  refine ⟨s5, n0, ?_, n2, n3, n4⟩
  rw [n1']
  simp [val]
theorem lcR_full {bs : List UInt8} {p : Nat} {x : UInt8} (hx : bs[p + 5]? = some x) (hl : p + 22 + x.toNat ≤ bs.length) :
    lcX bs p = ((bs.drop (p + 18)).take x.toNat, ⟨p + 18 + x.toNat, false⟩) ∧ ((lcX bs p).2.num bs 4).2.p = p + 22 + x.toNat ∧
      lcR bs p = if val ((bs.drop (p + (18 + x.toNat))).take 4) = sumN ((bs.drop p).take (18 + x.toNat)) then (if lcHd bs p = true then 0 else 3) else 4 := by
  obtain ⟨s5, _, n1, _⟩ := lc_there hx (by omega : p + 18 ≤ bs.length)
  have hX : lcX bs p = ((bs.drop (p + 18)).take x.toNat, ⟨p + 18 + x.toNat, false⟩) := by
    unfold lcX
    rw [s5, n1]
    exact row_there (by omega)
  refine ⟨hX, ?_, ?_⟩
  · rw [hX, num_there (by omega)]
    show p + 18 + x.toNat + 4 = _
    omega
  · have e : chkN bs p (lcX bs p).2 = if val ((bs.drop (p + (18 + x.toNat))).take 4) = sumN ((bs.drop p).take (18 + x.toNat)) then 0 else 4 := by
      unfold chkN
      rw [hX]
      rw [num_there (by omega : p + 18 + x.toNat + 4 ≤ bs.length)]
      show (if false = true then 2 else if val ((bs.drop (p + 18 + x.toNat)).take 4) = sumN ((bs.drop p).take (p + 18 + x.toNat - p)) then 0 else 4) = _
      rw [if_neg (by decide), show p + 18 + x.toNat - p = 18 + x.toNat by omega, Nat.add_assoc p 18]
    unfold lcR
    rw [e]
    split
    · rfl
    · rw [if_neg (by decide)]
end Go.Proofs.YtlbhflhmakdfmaaDoor
