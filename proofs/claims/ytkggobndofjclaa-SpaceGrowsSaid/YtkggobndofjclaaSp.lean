/- Layer 26: parts, sums of numbers, and the ledger by its number. -/
import Derived.Test.YtkggobndofjclaaRows
import Derived.Test.YtkggobndofjclaaFoot
import Derived.Test.YtkggobndofjclaaOpens
import Derived.WalkKit
import Derived.WalkSpells
import Derived.WalkLawsBesides
import Derived.Lib.Hide
import Derived.Deep.RegionHeld3
import Derived.Deep.DrawnRows
import Derived.Deep.LoopGhost
import Derived.StillTailTactics
import Derived.Deep.RegionLaw
namespace Go.Proofs.Ytkggobndofjclaa
open Go.RowKit
attribute [local go_sem ↓] Go.wp_at_zero Go.wp_at_succ

theorem ret_int26 {k : IntKind} {a b : Int} (h : a = b) : Ending.returned (.int k a) = .returned (.int k b) := by rw [h]
theorem wrap26 (n : Int) (h0 : -9223372036854775808 ≤ n) (h1 : n ≤ 9223372036854775807) : IntKind.i64.wrap n = n := IntWalk.i64_in _ (by omega)

/-- A size as it counts. -/
def cutC (n : Int) : Nat := if n < 0 then 0 else if 65536 < n then 65536 else n.toNat
theorem cutC_le (n : Int) : cutC n ≤ 65536 := by
  unfold cutC
  split
  · omega
  · split <;> omega
/-- As few parts of at most m as n are. -/
def partsC (n m : Nat) : Nat := if n = 0 then 0 else (n - 1) / m + 1
theorem partsC_pieces {n : Nat} (h : n ≤ 65536) : partsC n 65535 = if n = 0 then 0 else if n = 65536 then 2 else 1 := by
  unfold partsC
  by_cases h0 : n = 0
  · rw [if_pos h0, if_pos h0]
  rw [if_neg h0, if_neg h0]
  by_cases h1 : n = 65536
  · rw [if_pos h1]; omega
  · rw [if_neg h1]; omega

set_option maxHeartbeats 400000 in
theorem parts_no (n m : Int) (w : World) (h : n < 1) : Calls Try.prog 27 #[.int .i64 n, .int .i64 m] w fun e w' => e = .returned (.int .i64 0) ∧ w = w' := by
  go_enter Try.func27, Try.ntmps27
  go_wp2
  go_ret
  exact ⟨rfl, rfl⟩
set_option maxHeartbeats 400000 in
theorem parts_512 (n : Nat) (w : World) (h : 1 ≤ n) (h2 : n ≤ 4194304) : Calls Try.prog 27 #[.int .i64 (n : Int), .int .i64 512] w fun e w' => e = .returned (.int .i64 (partsC n 512 : Nat)) ∧ w = w' := by
  have HP : Hid ((((n : Int) - 1) / 512 + 1 : Int) = (partsC n 512 : Nat)) := by show _ = _; unfold partsC; rw [if_neg (by omega)]; omega
  have h1 : ¬ ((n : Int) < 1) := by omega
  clear h
  go_enter Try.func27, Try.ntmps27
  go_wp2
  go_ret
  exact ⟨ret_int26 HP.out, rfl⟩
set_option maxHeartbeats 400000 in
theorem parts_65535 (n : Nat) (w : World) (h : 1 ≤ n) (h2 : n ≤ 4194304) : Calls Try.prog 27 #[.int .i64 (n : Int), .int .i64 65535] w fun e w' => e = .returned (.int .i64 (partsC n 65535 : Nat)) ∧ w = w' := by
  have HP : Hid ((((n : Int) - 1) / 65535 + 1 : Int) = (partsC n 65535 : Nat)) := by show _ = _; unfold partsC; rw [if_neg (by omega)]; omega
  have h1 : ¬ ((n : Int) < 1) := by omega
  clear h
  go_enter Try.func27, Try.ntmps27
  go_wp2
  go_ret
  exact ⟨ret_int26 HP.out, rfl⟩
theorem pieces_no (n : Int) (w : World) (h : n < 1) : Calls Try.prog 15 #[.int .i64 n] w fun e w' => e = .returned (.int .i64 0) ∧ w = w' := by
  go_enter Try.func15, Try.ntmps15
  go_wp2_with (go_at_call 27; refine (parts_no _ _ _ h).mono ?_; rintro e w' ⟨rfl, rfl⟩)
  go_ret
  exact ⟨rfl, rfl⟩
theorem pieces_yes (n : Nat) (w : World) (h : 1 ≤ n) (h2 : n ≤ 4194304) : Calls Try.prog 15 #[.int .i64 (n : Int)] w fun e w' => e = .returned (.int .i64 (partsC n 65535 : Nat)) ∧ w = w' := by
  have HP := Lib.hid (parts_65535 n w h h2)
  generalize partsC n 65535 = k at *
  go_enter Try.func15, Try.ntmps15
  go_wp2_with (go_at_call 27; refine HP.out.mono ?_; rintro e w' ⟨rfl, rfl⟩)
  go_ret
  exact ⟨rfl, rfl⟩
theorem pieces_nat (n : Nat) (w : World) (h2 : n ≤ 4194304) : Calls Try.prog 15 #[.int .i64 (n : Int)] w fun e w' => e = .returned (.int .i64 (partsC n 65535 : Nat)) ∧ w = w' := by
  by_cases h : n = 0
  · subst h
    exact pieces_no _ _ (by omega)
  · exact pieces_yes n w (by omega) h2
theorem sectors_no (n : Int) (w : World) (h : n < 1) : Calls Try.prog 16 #[.int .i64 n] w fun e w' => e = .returned (.int .i64 0) ∧ w = w' := by
  go_enter Try.func16, Try.ntmps16
  go_wp2_with (go_at_call 27; refine (parts_no _ _ _ h).mono ?_; rintro e w' ⟨rfl, rfl⟩)
  go_ret
  exact ⟨rfl, rfl⟩
theorem sectors_yes (n : Nat) (w : World) (h : 1 ≤ n) (h2 : n ≤ 4194304) : Calls Try.prog 16 #[.int .i64 (n : Int)] w fun e w' => e = .returned (.int .i64 (partsC n 512 : Nat)) ∧ w = w' := by
  have HP := Lib.hid (parts_512 n w h h2)
  generalize partsC n 512 = k at *
  go_enter Try.func16, Try.ntmps16
  go_wp2_with (go_at_call 27; refine HP.out.mono ?_; rintro e w' ⟨rfl, rfl⟩)
  go_ret
  exact ⟨rfl, rfl⟩
theorem capacity_no (n : Int) (w : World) (h : n < 1 ∨ 2097152 < n) : Calls Try.prog 17 #[.int .i64 n] w fun e w' => e = .returned (.int .i64 0) ∧ w = w' := by
  by_cases h1 : 2097152 < n
  · clear h
    go_enter Try.func17, Try.ntmps17
    go_wp2
    go_ret
    exact ⟨rfl, rfl⟩
  · have h2 : n < 1 := by omega
    clear h
    go_enter Try.func17, Try.ntmps17
    go_wp2_with (go_at_call 16; refine (sectors_no _ _ h2).mono ?_; rintro e w' ⟨rfl, rfl⟩)
    go_ret
    exact ⟨rfl, rfl⟩
theorem partsC_le (n m : Nat) (h : n ≤ 4194304) : partsC n m ≤ 4194305 := by
  unfold partsC
  split
  · omega
  · have := Nat.div_le_self (n - 1) m
    omega
theorem capacity_yes (n : Nat) (w : World) (h : 1 ≤ n) (h2 : n ≤ 2097152) : Calls Try.prog 17 #[.int .i64 (n : Int)] w fun e w' => e = .returned (.int .i64 (2 * partsC n 512 : Nat)) ∧ w = w' := by
  have HP := Lib.hid (sectors_yes n w h (by omega))
  have hk := partsC_le n 512 (by omega)
  generalize partsC n 512 = k at *
  have h3 : ¬ (2097152 < (n : Int)) := by omega
  clear h h2
  go_enter Try.func17, Try.ntmps17
  go_wp2_with (go_at_call 16; refine HP.out.mono ?_; rintro e w' ⟨rfl, rfl⟩)
  go_ret
  exact ⟨ret_int26 (by omega), rfl⟩

/-- Have bytes room behind an end? -/
def fitsB (a b c : Int) : Bool := decide (0 ≤ a ∧ 0 ≤ b ∧ 0 ≤ c ∧ a ≤ 2097152 ∧ b ≤ 2097152 - a ∧ c ≤ 2097152 - a - b)
set_option maxHeartbeats 1000000 in
theorem fits_any (a b c : Int) (w : World) : Calls Try.prog 14 #[.int .i64 a, .int .i64 b, .int .i64 c] w fun e w' => e = .returned (.bool (fitsB a b c)) ∧ w = w' := by
  have HF : Hid (fitsB a b c = decide (0 ≤ a ∧ 0 ≤ b ∧ 0 ≤ c ∧ a ≤ 2097152 ∧ b ≤ 2097152 - a ∧ c ≤ 2097152 - a - b)) := rfl
  generalize fitsB a b c = o at *
  have i0 : ∀ w, (Instr.index 50 (.agg #[.int .i64 a, .int .i64 b, .int .i64 c]) (.int .i64 0)).run Try.prog w = .ok (.int .i64 a) w := fun _ => by kernel_rfl
  have i1 : ∀ w, (Instr.index 50 (.agg #[.int .i64 a, .int .i64 b, .int .i64 c]) (.int .i64 1)).run Try.prog w = .ok (.int .i64 b) w := fun _ => by kernel_rfl
  have i2 : ∀ w, (Instr.index 50 (.agg #[.int .i64 a, .int .i64 b, .int .i64 c]) (.int .i64 2)).run Try.prog w = .ok (.int .i64 c) w := fun _ => by kernel_rfl
  go_enter Try.func14, Try.ntmps14
  go_wp2
  go_loopg [7, 9, 14] 3 (fun gk l _ i wr => wr = w ∧ ((gk = 3 ∧ l = .int .i64 2097152 ∧ i = .int .i64 0) ∨ (gk = 2 ∧ l = .int .i64 (2097152 - a) ∧ i = .int .i64 1 ∧ 0 ≤ a ∧ a ≤ 2097152) ∨ (gk = 1 ∧ l = .int .i64 (2097152 - a - b) ∧ i = .int .i64 2 ∧ 0 ≤ a ∧ a ≤ 2097152 ∧ 0 ≤ b ∧ b ≤ 2097152 - a) ∨ (gk = 0 ∧ i = .int .i64 3 ∧ 0 ≤ a ∧ a ≤ 2097152 ∧ 0 ≤ b ∧ b ≤ 2097152 - a ∧ 0 ≤ c ∧ c ≤ 2097152 - a - b)))
  case atStart => exact ⟨rfl, .inl ⟨rfl, rfl, rfl⟩⟩
  case round =>
    obtain ⟨rfl, h | h | h | h⟩ := hrel
    · obtain ⟨rfl, rfl, rfl⟩ := h
      by_cases n1 : a < 0
      · have HO : Hid (o = false) := by show _ = _; rw [HF.out]; exact decide_eq_false (by omega)
        clear HF
        go_wp2
        go_ret
        exact ⟨by rw [HO.out]; rfl, rfl⟩
      by_cases n2 : 2097152 < a
      · have HO : Hid (o = false) := by show _ = _; rw [HF.out]; exact decide_eq_false (by omega)
        clear HF
        go_wp2
        go_ret
        exact ⟨by rw [HO.out]; rfl, rfl⟩
      · have n1' : decide (a < 0) = false := by simpa using n1
        have n2' : decide (2097152 < a) = false := by simpa using n2
        go_wp2
        go_roundg 2
        case measure => omega
        case rel => exact ⟨rfl, .inr (.inl ⟨rfl, rfl, rfl, by omega, by omega⟩)⟩
    · obtain ⟨rfl, rfl, rfl, h1, h2⟩ := h
      by_cases n1 : b < 0
      · have HO : Hid (o = false) := by show _ = _; rw [HF.out]; exact decide_eq_false (by omega)
        clear HF
        go_wp2
        go_ret
        exact ⟨by rw [HO.out]; rfl, rfl⟩
      by_cases n2 : 2097152 - a < b
      · have HO : Hid (o = false) := by show _ = _; rw [HF.out]; exact decide_eq_false (by omega)
        clear HF
        go_wp2
        go_ret
        exact ⟨by rw [HO.out]; rfl, rfl⟩
      · have n1' : decide (b < 0) = false := by simpa using n1
        have n2' : decide (2097152 - a < b) = false := by simpa using n2
        go_wp2
        go_roundg 1
        case measure => omega
        case rel => exact ⟨rfl, .inr (.inr (.inl ⟨rfl, rfl, rfl, h1, h2, by omega, by omega⟩))⟩
    · obtain ⟨rfl, rfl, rfl, h1, h2, h3, h4⟩ := h
      by_cases n1 : c < 0
      · have HO : Hid (o = false) := by show _ = _; rw [HF.out]; exact decide_eq_false (by omega)
        clear HF
        go_wp2
        go_ret
        exact ⟨by rw [HO.out]; rfl, rfl⟩
      by_cases n2 : 2097152 - a - b < c
      · have HO : Hid (o = false) := by show _ = _; rw [HF.out]; exact decide_eq_false (by omega)
        clear HF
        go_wp2
        go_ret
        exact ⟨by rw [HO.out]; rfl, rfl⟩
      · have n1' : decide (c < 0) = false := by simpa using n1
        have n2' : decide (2097152 - a - b < c) = false := by simpa using n2
        go_wp2
        go_roundg 0
        case measure => omega
        case rel => exact ⟨rfl, .inr (.inr (.inr ⟨rfl, rfl, h1, h2, h3, h4, by omega, by omega⟩))⟩
    · obtain ⟨rfl, rfl, h1, h2, h3, h4, h5, h6⟩ := h
      have HO : Hid (o = true) := by show _ = _; rw [HF.out]; exact decide_eq_true ⟨h1, h3, h5, h2, h4, h6⟩
      clear HF
      go_wp2
      go_ret
      exact ⟨by rw [HO.out]; rfl, rfl⟩
end Go.Proofs.Ytkggobndofjclaa
