/- Layer 16: LocalFlips walked. -/
import Derived.Test.YtakjpkhholgdbabDoorLcLives
import Derived.Test.YtakjpkhholgdbabDoorKFlip
import Derived.Test.YtakjpkhholgdbabDoorCrcRes
namespace Go.Proofs.YtakjpkhholgdbabDoor
open Go.RowKit CrcP FieldP
attribute [local go_sem ↓] Go.wp_at_zero Go.wp_at_succ

theorem take_one {bs : List UInt8} {k : Nat} {x : UInt8} (h : bs[k]? = some x) : (bs.drop k).take 1 = [x] := by
  obtain ⟨h1, h2⟩ := List.getElem?_eq_some_iff.1 h
  rw [List.drop_eq_getElem_cons h1, h2]
  rfl
theorem lc_chk {bs : List UInt8} {p : Nat} {x : UInt8} (h5 : bs[p + 5]? = some x) (hl : p + 22 + x.toNat ≤ bs.length) :
    chkN bs p (lcX bs p).2 = if val ((bs.drop (p + (18 + x.toNat))).take 4) = sumN ((bs.drop p).take (18 + x.toNat)) then 0 else 4 := by
  have e0 : lcS bs (openS bs p) 0 = ⟨p + 4, false⟩ := by show openS bs p = _; exact openS_there (by omega)
  obtain ⟨e1, n0⟩ := lcS_next e0 (by show p + 4 + 1 ≤ _; omega)
  obtain ⟨e2, n1⟩ := lcS_next e1 (by show p + 4 + 1 + 1 ≤ _; omega)
  obtain ⟨e3, n2⟩ := lcS_next e2 (by show p + 4 + 1 + 1 + 4 ≤ _; omega)
  obtain ⟨e4, n3⟩ := lcS_next e3 (by show p + 4 + 1 + 1 + 4 + 4 ≤ _; omega)
  obtain ⟨e5, n4⟩ := lcS_next e4 (by show p + 4 + 1 + 1 + 4 + 4 + 4 ≤ _; omega)
  have m1 : lcN bs (openS bs p) 1 = x.toNat := by rw [n1]; show val ((bs.drop (p + 5)).take 1) = _; rw [take_one h5]; simp [val]
  have eX : (lcX bs p).2 = ⟨p + 18 + x.toNat, false⟩ := by
    unfold lcX
    rw [e5, m1]
    show (RSt.row bs ⟨p + 18, false⟩ x.toNat).2 = _
    rw [row_there (by omega)]
  unfold chkN
  rw [eX]
  show (if (RSt.num bs ⟨p + 18 + x.toNat, false⟩ 4).2.bad = true then 2 else if (RSt.num bs ⟨p + 18 + x.toNat, false⟩ 4).1 = sumN ((bs.drop p).take (p + 18 + x.toNat - p)) then 0 else 4) = _
  rw [num_there (by omega), show p + 18 + x.toNat - p = 18 + x.toNat by omega, show p + 18 + x.toNat = p + (18 + x.toNat) by omega]
  rfl
theorem headB_five (m : Nat) (l : List UInt8) (sz ar su : Nat) : (headB m l sz ar su)[5]? = some (UInt8.ofNat l.length) := by
  rw [headB_parts, List.getElem?_append_right (by show 4 ≤ 5; omega), List.getElem?_append_right (by rw [putN_length]; show 1 ≤ 5 - 4; omega), putN_length]
  rfl
theorem head_flips {m : Nat} {l : List UInt8} {sz ar su a bits : Nat} (hd : hdB m l sz ar su = true) (h5 : (flipK (headB m l sz ar su) a bits 32)[5]? = (headB m l sz ar su)[5]?) (hne : headB m l sz ar su ≠ flipK (headB m l sz ar su) a bits 32) :
    ∃ E, (E = 3 ∨ E = 4) ∧ lcAns (flipK (headB m l sz ar su) a bits 32) 0 = .tuple #[.agg #[.int .i64 0, .string ⟨#[]⟩, .int .i64 0, .int .i64 0, .int .u32 0], .int .i64 0, .int .i64 E] := by
  have h64 := (rightB_len' (hdB_name hd)).2
  have hl : (flipK (headB m l sz ar su) a bits 32).length = 22 + l.length := by rw [length_flipK, headB_length]
  have hx : (UInt8.ofNat l.length).toNat = l.length := by rw [byte_toNat]; omega
  rw [headB_five] at h5
  have h0 : ¬ ((0 : Int) < 0 ∨ ((flipK (headB m l sz ar su) a bits 32).length : Int) < 0) := by omega
  cases hi : isB headBytes (flipK (headB m l sz ar su) a bits 32) 0 with
  | false =>
    refine ⟨3, .inl rfl, ?_⟩
    unfold lcAns
    rw [if_neg h0, if_pos ⟨by rw [hl]; omega, hi⟩]
  | true =>
    refine ⟨4, .inr rfl, ?_⟩
    have hC : chkN (flipK (headB m l sz ar su) a bits 32) 0 (lcX (flipK (headB m l sz ar su) a bits 32) 0).2 = 4 := by
      rw [lc_chk (p := 0) (x := UInt8.ofNat l.length) (by rw [Nat.zero_add]; exact h5) (by rw [hl, hx]; omega), hx, Nat.zero_add, List.drop_zero]
      refine if_neg fun hv => hne ?_
      exact burst_sealed (k := 18 + l.length) (by show (headB m l sz ar su).length = _; rw [headB_length]; omega) hv
    have hR : lcR (flipK (headB m l sz ar su) a bits 32) 0 = 4 := by
      unfold lcR
      rw [hC]
      rfl
    unfold lcAns
    rw [if_neg h0, if_neg (fun h => by rw [hi] at h; exact absurd h.2 (by decide))]
    show lcV _ 0 = _
    rw [lcV_bad (by rw [hR]; decide), hR]
    rfl
theorem head_same {m : Nat} (s : ByteArray) {sz ar su : Nat} (hd : hdB m s.data.toList sz ar su = true) (hsu : su < 4294967296) : lcAns (headB m s.data.toList sz ar su) 0 = .tuple #[.agg #[.int .i64 (m : Int), .string s, .int .i64 (sz : Int), .int .i64 (ar : Int), .int .u32 (su : Int)], .int .i64 ((22 + s.data.toList.length : Nat) : Int), .int .i64 0] := by
  obtain ⟨_, hi, hv⟩ := head_back (bs := headB m s.data.toList sz ar su) (p := 0) hd hsu (by rw [List.drop_zero]; exact List.take_of_length_le (by rw [headB_length]; exact Nat.le_refl _))
  have hi' : isB headBytes (headB m s.data.toList sz ar su) 0 = true := hi
  have hs : (⟨s.data.toList.toArray⟩ : ByteArray) = s := by rw [Array.toArray_toList]
  unfold lcAns
  rw [if_neg (by omega), if_neg (fun h => by rw [hi'] at h; exact absurd h.2 (by decide))]
  show lcV _ 0 = _
  rw [hv, hs, show 0 + 22 + s.data.toList.length = 22 + s.data.toList.length by omega]
end Go.Proofs.YtakjpkhholgdbabDoor
