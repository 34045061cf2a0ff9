/- Layer 17: at one place at most one of a head and a tombstone stands. -/
import Derived.Test.YtakjpkhholgdbaaDoorStAns
import Derived.Test.YtakjpkhholgdbaaDoorLcAns
namespace Go.Proofs.YtakjpkhholgdbaaDoor
open Go.RowKit CrcP FieldP

theorem stTake_all (tg : Nat) (A : Option Addr) (l c : Nat) (bs : List UInt8) (B : Nat) (p : Int) (w : World) (hT : Table w tg) (hl : bs.length = l) (hm : l ≤ 1099511627776) (hlc : l ≤ c)
    (hb : Bytes w B A bs) (hB : B ≤ w.heap.size) :
    Calls Tryd.prog 13 #[.pointer (some ⟨tg, 0, none⟩), .slice A l c, .int .i64 p] w fun e w' => e = .returned (stAns bs p) ∧ Below w.heap.size w w' := by
  by_cases h1 : p < 0 ∨ (bs.length : Int) < p
  · have e1 : stAns bs p = .tuple #[.string ⟨#[]⟩, .int .i64 0, .int .i64 1] := by unfold stAns; rw [if_pos h1]
    rw [e1]
    refine (stTake_arg tg A l c p w (by rw [← hl]; exact h1)).mono ?_
    rintro e w' ⟨rfl, rfl⟩
    exact ⟨rfl, Below.refl _ _⟩
  obtain ⟨q, rfl⟩ := Int.eq_ofNat_of_zero_le (show 0 ≤ p by omega)
  by_cases h2 : (q : Int) + 4 ≤ bs.length ∧ isB tombBytes bs q = false
  · have e1 : stAns bs q = .tuple #[.string ⟨#[]⟩, .int .i64 0, .int .i64 3] := by unfold stAns; rw [if_neg h1, if_pos h2]
    rw [e1]
    refine (stTake_form tg A l c bs B q w hl hm hlc hb (by omega) h2.2).mono ?_
    rintro e w' ⟨rfl, rfl⟩
    exact ⟨rfl, Below.refl _ _⟩
  · have e1 : stAns bs q = stV bs q := by unfold stAns; rw [if_neg h1, if_neg h2, Int.toNat_natCast]
    rw [e1]
    exact stTake_ok tg A l c bs B q w hT hl hm hlc hb hB (by omega) (fun h => by cases hi : isB tombBytes bs q with | true => rfl | false => exact absurd ⟨by omega, hi⟩ h2)

/-- Where a tombstone's mark stands, no head stands. -/
theorem lcAns_tomb {bs : List UInt8} {q : Nat} (h4 : q + 4 ≤ bs.length) (hi : isB tombBytes bs q = true) : lcAns bs q = .tuple #[.agg #[.int .i64 0, .string ⟨#[]⟩, .int .i64 0, .int .i64 0, .int .u32 0], .int .i64 0, .int .i64 3] := by
  have hh : isB headBytes bs q = false := by
    rw [isB_in (by show q + 4 ≤ _; omega)] at hi ⊢
    have h : (bs.drop q).take 4 = tombBytes := of_decide_eq_true hi
    refine decide_eq_false ?_
    show ¬ (bs.drop q).take 4 = headBytes
    rw [h]
    decide
  unfold lcAns
  rw [if_neg (by omega), if_pos ⟨by omega, hh⟩]
theorem apart {bs : List UInt8} {q : Nat} {S : ByteArray} {K : Int} (h : stAns bs q = .tuple #[.string S, .int .i64 K, .int .i64 0]) : lcAns bs q = .tuple #[.agg #[.int .i64 0, .string ⟨#[]⟩, .int .i64 0, .int .i64 0, .int .u32 0], .int .i64 0, .int .i64 3] := by
  unfold stAns at h
  split at h
  · injection h with h; injection h with h; simp at h
  · rename_i h1
    split at h
    · injection h with h; injection h with h; simp at h
    · rename_i h2
      have hR : stR bs q = 0 := by
        rw [Int.toNat_natCast] at h
        unfold stV at h
        injection h with h
        injection h with h
        simp at h
        omega
      have h4 : q + 4 ≤ bs.length := by
        by_cases h4 : q + 4 ≤ bs.length
        · exact h4
        · rw [stR_short (by omega)] at hR; cases hR
      have hi : isB tombBytes bs q = true := by cases hi : isB tombBytes bs q with | true => rfl | false => exact absurd ⟨by omega, hi⟩ h2
      exact lcAns_tomb h4 hi
theorem tomb_among {l hs0 cs : List UInt8} : ((hs0 ++ tombB l ++ cs).drop hs0.length).take (9 + l.length) = tombB l := by
  rw [List.append_assoc, app_drop rfl, app_take (tombB_length l)]
theorem back_ans (s : ByteArray) (hs0 cs : List UInt8) (hr : rightB s.data.toList = true) :
    stAns (hs0 ++ tombB s.data.toList ++ cs) (hs0.length : Nat) = .tuple #[.string s, .int .i64 ((hs0.length : Int) + (9 + (s.size : Int))), .int .i64 0] ∧ lcAns (hs0 ++ tombB s.data.toList ++ cs) (hs0.length : Nat) = .tuple #[.agg #[.int .i64 0, .string ⟨#[]⟩, .int .i64 0, .int .i64 0, .int .u32 0], .int .i64 0, .int .i64 3] := by
  have hln : s.data.toList.length = s.size := by rw [Array.length_toList]; rfl
  obtain ⟨hl, hi, _⟩ := tomb_back (bs := hs0 ++ tombB s.data.toList ++ cs) (p := hs0.length) hr tomb_among
  refine ⟨?_, lcAns_tomb (by omega) hi⟩
  unfold stAns
  rw [if_neg (by omega), if_neg (fun h => by rw [hi] at h; exact absurd h.2 (by decide)), Int.toNat_natCast, stV_back hr tomb_among, hln]
  have hs : (⟨s.data.toList.toArray⟩ : ByteArray) = s := by rw [Array.toArray_toList]
  rw [hs, show ((hs0.length + 9 + s.size : Nat) : Int) = (hs0.length : Int) + (9 + (s.size : Int)) by omega]
end Go.Proofs.YtakjpkhholgdbaaDoor
