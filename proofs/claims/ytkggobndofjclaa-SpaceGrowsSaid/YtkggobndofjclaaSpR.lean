/- Layer 26: the document's answers, and the chapter's example. -/
import Derived.Test.YtkggobndofjclaaSpL
namespace Go.Proofs.Ytkggobndofjclaa
open Go.RowKit
attribute [local go_sem ↓] Go.wp_at_zero Go.wp_at_succ

set_option maxHeartbeats 400000 in
theorem cut26_any (n : Int) (w : World) : Calls Try.prog 30 #[.int .i64 n] w fun e w' => e = .returned (.int .i64 (cutC n : Nat)) ∧ w = w' := by
  have HC : Hid (cutC n = if n < 0 then 0 else if 65536 < n then 65536 else n.toNat) := rfl
  generalize cutC n = q at *
  by_cases h0 : n < 0
  · have HQ : Hid ((q : Int) = 0) := by show _ = _; rw [HC.out, if_pos h0]; rfl
    clear HC
    go_enter Try.func30, Try.ntmps30
    go_wp2
    go_ret
    exact ⟨by rw [HQ.out]; rfl, rfl⟩
  by_cases h1 : 65536 < n
  · have HQ : Hid ((q : Int) = 65536) := by show _ = _; rw [HC.out, if_neg h0, if_pos h1]; rfl
    clear HC
    go_enter Try.func30, Try.ntmps30
    go_wp2
    go_ret
    exact ⟨by rw [HQ.out]; rfl, rfl⟩
  · have HQ : Hid ((q : Int) = n) := by show _ = _; rw [HC.out, if_neg h0, if_neg h1]; omega
    clear HC
    go_enter Try.func30, Try.ntmps30
    go_wp2
    go_ret
    exact ⟨by rw [HQ.out]; rfl, rfl⟩
set_option maxHeartbeats 400000 in
theorem rput26_any (s : ByteArray) (z : Int) (w : World) (hs : s.size ≤ 1099511627776) : Calls Try.prog 24 #[.string s, .int .i64 z] w fun e w' => e = .returned (.int .i64 (22 + s.size + cutC z : Nat)) ∧ w = w' := by
  have hq := cutC_le z
  have HR := Lib.hid (cut26_any z w)
  generalize cutC z = q at *
  go_enter Try.func24, Try.ntmps24
  go_wp2_with (go_at_call 30; refine HR.out.mono ?_; rintro e w9 ⟨rfl, rfl⟩)
  go_ret
  exact ⟨ret_int26 (by omega), rfl⟩
theorem partsC_up {n m k : Nat} (hm : 0 < m) (h : k * m < n) : k + 1 ≤ partsC n m := by
  unfold partsC
  rw [if_neg (by omega)]
  have : k ≤ (n - 1) / m := (Nat.le_div_iff_mul_le hm).2 (by omega)
  omega
theorem partsC_end {n m k : Nat} (hm : 0 < m) (h : n ≤ k * m) : partsC n m ≤ k := by
  unfold partsC
  split
  · omega
  · have : (n - 1) / m < k := (Nat.div_lt_iff_lt_mul hm).2 (by omega)
    omega
set_option maxHeartbeats 400000 in
theorem rparts_any (n m : Nat) (w : World) (hn : n ≤ 4194304) (hm : 0 < m) (hm2 : m ≤ 65535) : Calls Try.prog 18 #[.int .i64 (n : Int), .int .i64 (m : Int)] w fun e w' => e = .returned (.int .i64 (partsC n m : Nat)) ∧ w = w' := by
  have HU := Lib.hid (fun k => @partsC_up n m k hm)
  have HE := Lib.hid (fun k => @partsC_end n m k hm)
  have hle := partsC_le n m hn
  generalize partsC n m = q at *
  go_enter Try.func18, Try.ntmps18
  go_wp2
  go_loopg [5] q (fun gk i wr => ∃ k : Nat, k + gk = q ∧ i = .int .i64 k ∧ wr = w)
  case atStart => exact ⟨0, by omega, rfl, rfl⟩
  case round =>
    obtain ⟨k, hk, rfl, rfl⟩ := hrel
    have hkm : k * m ≤ 4194305 * 65535 := Nat.mul_le_mul (by omega) hm2
    have hw : IntKind.i64.wrap ((k : Int) * (m : Int)) = ((k * m : Nat) : Int) := by rw [wrap26 _ (by rw [← Int.natCast_mul]; omega) (by rw [← Int.natCast_mul]; omega), Int.natCast_mul]
    have hu := HU.out k
    have he := HE.out k
    generalize k * m = km at *
    by_cases h : km < n
    · have hu := hu h
      clear he
      have hd : decide ((km : Int) < (n : Int)) = true := by simp; omega
      go_wp2
      go_roundg (gk - 1)
      case measure => omega
      case rel => exact ⟨k + 1, by omega, by go_num, rfl⟩
    · have he := he (by omega)
      obtain rfl : k = q := by omega
      have hd : decide ((km : Int) < (n : Int)) = false := by simp; omega
      have hd' : decide (km < n) = false := by simp; omega
      clear hu h he
      go_wp2
      go_ret
      exact ⟨rfl, rfl⟩
set_option maxHeartbeats 400000 in
theorem rmore26_any (z : Int) (w : World) : Calls Try.prog 25 #[.int .i64 z] w fun e w' => e = .returned (.int .i64 (cutC z + 2 * partsC (cutC z) 65535 : Nat)) ∧ w = w' := by
  have hq := cutC_le z
  have HR := Lib.hid (cut26_any z w)
  generalize cutC z = q at *
  have HP := Lib.hid (rparts_any q 65535 w (by omega) (by omega) (by omega))
  have hle := partsC_le q 65535 (by omega)
  generalize partsC q 65535 = k at *
  go_enter Try.func25, Try.ntmps25
  go_wp2_with (first | (go_at_call 30; refine HR.out.mono ?_; rintro e w9 ⟨rfl, rfl⟩) | (go_at_call 18; refine HP.out.mono ?_; rintro e w9 ⟨rfl, rfl⟩))
  go_ret
  exact ⟨ret_int26 (by omega), rfl⟩
set_option maxHeartbeats 1000000 in
theorem rbound_any (n : Nat) (A : Option Addr) (l c : Nat) (fs : List LF) (B : Nat) (w : World) (hn : n ≤ 576460752303423488) (hl : fs.length = l) (hm : l ≤ 1099511627776) (hr : rowsC fs ≤ 1099511627776) (hb : Cells w B A (fs.map LF.cells).flatten) :
    Calls Try.prog 13 #[.int .i64 (n : Int), .slice A l c] w fun e w' => e = .returned (.int .i64 (boundC n fs : Nat)) ∧ w = w' := by
  have HC := Lib.hid hb
  have HSM := Lib.hid (rowsC_take_le fs)
  have HFL := Lib.hid (files_len fs)
  have HBO : Hid (boundC n fs = 1044 + n + rowsC fs) := rfl
  clear hb
  generalize boundC n fs = bo at *
  go_enter Try.func13, Try.ntmps13
  go_wp2
  go_loopg [5, 6] l (fun gk v i wr => ∃ k : Nat, k + gk = l ∧ i = .int .i64 k ∧ v = .int .i64 ((1044 + n + rowsC (fs.take k) : Nat) : Int) ∧ wr = w)
  case atStart => exact ⟨0, by omega, rfl, by show Value.int .i64 _ = _; congr 1, rfl⟩
  case round =>
    obtain ⟨k, hk, rfl, rfl, rfl⟩ := hrel
    by_cases h : k < l
    · obtain ⟨f, hx⟩ : ∃ x, fs[k]? = some x := ⟨_, List.getElem?_eq_getElem (by omega)⟩
      obtain ⟨b, o, rfl, hbB, hc⟩ := HC.out (by rw [HFL.out]; omega)
      have HF := Lib.hid (files_at hx)
      have c0 : wr.cell? ⟨b, o + k * 2, none⟩ = some (.string f.s) := hc _ _ HF.out.1
      have HS1 := Lib.hid (rowsC_take_succ hx)
      have h1 := HSM.out k
      have h2 := HSM.out (k + 1)
      rw [HS1.out] at h2
      clear hc hx
      go_wp2
      go_roundg (gk - 1)
      case measure => omega
      case rel => exact ⟨k + 1, by omega, by go_num, by rw [HS1.out]; go_num, rfl⟩
    · obtain rfl : k = l := by omega
      have HK : Hid (rowsC (fs.take k) = rowsC fs) := by show _ = _; rw [List.take_of_length_le (by omega)]
      rw [HK.out]
      go_wp2
      go_ret
      exact ⟨by rw [HBO.out]; rfl, rfl⟩
end Go.Proofs.Ytkggobndofjclaa
