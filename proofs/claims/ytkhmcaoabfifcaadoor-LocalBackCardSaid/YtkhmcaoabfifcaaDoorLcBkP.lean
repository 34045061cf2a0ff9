/- Layer 16, plainly: what LocalBack asks. -/
import Derived.Test.YtkhmcaoabfifcaaDoorLcTaken
import Derived.Test.YtkhmcaoabfifcaaDoorLcLives
namespace Go.Proofs.YtkhmcaoabfifcaaDoor
open Go.RowKit CrcP FieldP

theorem lc_four {bs : List UInt8} {p : Nat} (h : lcR bs p = 0) : p + 4 ≤ bs.length := by
  have hc : chkN bs p (lcX bs p).2 = 0 := by
    unfold lcR at h
    split at h
    · assumption
    · exact h
  have hb : ((lcX bs p).2.num bs 4).2.bad = false := by
    unfold chkN at hc
    split at hc
    · cases hc
    · rename_i hn; simpa using hn
  obtain ⟨g6, l6, q6⟩ := num_good hb
  obtain ⟨g5, l5, q5⟩ := row_good (s := lcS bs (openS bs p) 5) (k := lcN bs (openS bs p) 1) g6
  obtain ⟨g4, l4, q4⟩ := num_good (s := lcS bs (openS bs p) 4) (k := wid 4) g5
  obtain ⟨g3, l3, q3⟩ := num_good (s := lcS bs (openS bs p) 3) (k := wid 3) g4
  obtain ⟨g2, l2, q2⟩ := num_good (s := lcS bs (openS bs p) 2) (k := wid 2) g3
  obtain ⟨g1, l1, q1⟩ := num_good (s := lcS bs (openS bs p) 1) (k := wid 1) g2
  obtain ⟨g0, l0, q0⟩ := num_good (s := lcS bs (openS bs p) 0) (k := wid 0) g1
  obtain ⟨_, lo, qo⟩ := row_good (s := ⟨p, false⟩) (k := 4) g0
  exact lo
/-- A head that was put is taken. -/
theorem back_lc {m sz ar su : Nat} (s : ByteArray) (hs cs : List UInt8) (hd : hdB m s.data.toList sz ar su = true) (hsu : su < 4294967296) :
    lcAns (hs ++ headB m s.data.toList sz ar su ++ cs) (hs.length : Int) = .tuple #[.agg #[.int .i64 (m : Int), .string s, .int .i64 (sz : Int), .int .i64 (ar : Int), .int .u32 (su : Int)], .int .i64 ((hs.length + (22 + s.size) : Nat) : Int), .int .i64 0] := by
  have hln : s.data.toList.length = s.size := by rw [Array.length_toList]; rfl
  have hH : (headB m s.data.toList sz ar su).length = 22 + s.data.toList.length := by rw [headB_length]
  obtain ⟨h1, hi, hv⟩ := head_back (bs := hs ++ headB m s.data.toList sz ar su ++ cs) (p := hs.length) hd hsu (by
    rw [List.append_assoc, app_drop rfl, List.take_append_of_le_length (by rw [hH]; exact Nat.le_refl _)]
    exact List.take_of_length_le (by rw [hH]; exact Nat.le_refl _))
  have ht : (⟨s.data.toList.toArray⟩ : ByteArray) = s := by rw [Array.toArray_toList]
  unfold lcAns
  rw [if_neg (by rw [List.length_append, List.length_append]; omega), if_neg (fun h => by rw [hi] at h; exact absurd h.2 (by decide)), Int.toNat_natCast, hv, ht, hln, show hs.length + 22 + s.size = hs.length + (22 + s.size) by omega]
/-- What stands at the beginning of any bytes: no head, or one that is put as it was. -/
theorem taken_lc (cs : List UInt8) : (∃ E : Nat, E ≠ 0 ∧ lcAns cs 0 = .tuple #[.agg #[.int .i64 0, .string ⟨#[]⟩, .int .i64 0, .int .i64 0, .int .u32 0], .int .i64 0, .int .i64 (E : Int)]) ∨
    (∃ (m : Nat) (S : ByteArray) (sz ar su : Nat), lcAns cs 0 = .tuple #[.agg #[.int .i64 (m : Int), .string S, .int .i64 (sz : Int), .int .i64 (ar : Int), .int .u32 (su : Int)], .int .i64 ((22 + S.size : Nat) : Int), .int .i64 0] ∧
      hdB m S.data.toList sz ar su = true ∧ su < 4294967296 ∧ 22 + S.size ≤ cs.length ∧ cs.take (22 + S.size) = headB m S.data.toList sz ar su) := by
  by_cases h2 : ((0 : Int) + 4 ≤ cs.length ∧ isB headBytes cs 0 = false)
  · refine .inl ⟨3, by decide, ?_⟩
    unfold lcAns
    rw [if_neg (by omega), if_pos h2]
    rfl
  · have e : lcAns cs 0 = lcV cs 0 := by unfold lcAns; rw [if_neg (by omega), if_neg h2]; rfl
    by_cases h0 : lcR cs 0 = 0
    · have h4 := lc_four h0
      have hi : isB headBytes cs ((0 : Nat) : Int) = true := by
        cases hi : isB headBytes cs ((0 : Nat) : Int) with
        | true => rfl
        | false => exact absurd ⟨by omega, hi⟩ h2
      obtain ⟨g1, g2, g3, g4⟩ := lc_taken (p := 0) hi h0
      refine .inr ⟨lcN cs (openS cs 0) 0, ⟨(lcX cs 0).1.toArray⟩, lcN cs (openS cs 0) 2, lcN cs (openS cs 0) 3, lcN cs (openS cs 0) 4, ?_, ?_, lcN_lt _ _ _, ?_, ?_⟩
      · rw [e, lcV_good h0, g4]
        have hz : (⟨(lcX cs 0).1.toArray⟩ : ByteArray).size = (lcX cs 0).1.length := by show (lcX cs 0).1.toArray.size = _; rw [List.size_toArray]
        rw [hz, show 0 + 22 + (lcX cs 0).1.length = 22 + (lcX cs 0).1.length by omega]
      · rw [List.toList_toArray]; exact g2
      · show 22 + (lcX cs 0).1.toArray.size ≤ _; rw [List.size_toArray]; omega
      · show cs.take (22 + (lcX cs 0).1.toArray.size) = _
        rw [List.size_toArray, List.toList_toArray, ← g3, List.drop_zero]
    · refine .inl ⟨lcR cs 0, h0, ?_⟩
      rw [e, lcV_bad h0]
end Go.Proofs.YtkhmcaoabfifcaaDoor
