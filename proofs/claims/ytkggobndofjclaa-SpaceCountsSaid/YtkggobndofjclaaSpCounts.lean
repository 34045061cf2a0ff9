/- Layer 26: SpaceCounts and SpaceNone walked. -/
import Derived.Test.YtkggobndofjclaaSpE
namespace Go.Proofs.Ytkggobndofjclaa
open Go.RowKit
attribute [local go_sem ↓] Go.wp_at_zero Go.wp_at_succ

theorem fitsB_no {a b c : Int} (h : ¬ (0 ≤ a ∧ 0 ≤ b ∧ 0 ≤ c ∧ a ≤ 2097152 ∧ b ≤ 2097152 - a ∧ c ≤ 2097152 - a - b)) : fitsB a b c = false := decide_eq_false h
theorem fitsB_yes {a b c : Int} (h : 0 ≤ a ∧ 0 ≤ b ∧ 0 ≤ c ∧ a ≤ 2097152 ∧ b ≤ 2097152 - a ∧ c ≤ 2097152 - a - b) : fitsB a b c = true := decide_eq_true h

set_option maxHeartbeats 1000000 in
theorem counts_low (n more dir : Int) (w : World) (hlow : n < 1) :
    Calls Try.prog 4 #[.int .i64 n, .int .i64 more, .int .i64 dir] w fun e w' => e = .returned (.bool true) ∧ Below w.heap.size w w' := by
  by_cases c0 : ¬ (0 ≤ n)
  · skip
    have HF : Hid (∀ W : World, Calls Try.prog 14 #[.int .i64 n, .int .i64 more, .int .i64 dir] W fun e w' => e = .returned (.bool false) ∧ W = w') := fun W => by
      have := fits_any n more dir W
      rwa [fitsB_no (by omega)] at this
    have d0 : decide (0 ≤ n) = false := by first | (simp; done) | (simp; omega)
    have HP := Lib.hid (fun W => pieces_no n W hlow)
    have HS := Lib.hid (fun W => sectors_no n W hlow)
    have HCP := Lib.hid (fun W => capacity_no n W (.inl hlow))
    have e1 : decide (n < 1) = true := by simp; omega
    clear c0 hlow
    go_enter Try.func4, Try.ntmps4
    go_wp2_with (first | (go_at_call 14; refine (HF.out _).mono ?_; rintro e w' ⟨rfl, rfl⟩) | (go_at_call 17; refine (HCP.out _).mono ?_; rintro e w' ⟨rfl, rfl⟩) | (go_at_call 9; refine (lives26_any _).mono ?_; rintro e w6 ⟨rfl, hb⟩; have HB6 := Lib.hid hb; clear hb) | (go_at_call 15; refine (HP.out _).mono ?_; rintro e w' ⟨rfl, rfl⟩) | (go_at_call 16; refine (HS.out _).mono ?_; rintro e w' ⟨rfl, rfl⟩))
    go_ret
    exact ⟨rfl, HB6.out⟩
  replace c0 := Decidable.not_not.1 c0
  by_cases c1 : ¬ (0 ≤ more)
  · skip
    have HF : Hid (∀ W : World, Calls Try.prog 14 #[.int .i64 n, .int .i64 more, .int .i64 dir] W fun e w' => e = .returned (.bool false) ∧ W = w') := fun W => by
      have := fits_any n more dir W
      rwa [fitsB_no (by omega)] at this
    have d0 : decide (0 ≤ n) = true := by first | (simp; done) | (simp; omega)
    have d1 : decide (0 ≤ more) = false := by first | (simp; done) | (simp; omega)
    have HP := Lib.hid (fun W => pieces_no n W hlow)
    have HS := Lib.hid (fun W => sectors_no n W hlow)
    have HCP := Lib.hid (fun W => capacity_no n W (.inl hlow))
    have e1 : decide (n < 1) = true := by simp; omega
    clear c0 c1 hlow
    go_enter Try.func4, Try.ntmps4
    go_wp2_with (first | (go_at_call 14; refine (HF.out _).mono ?_; rintro e w' ⟨rfl, rfl⟩) | (go_at_call 17; refine (HCP.out _).mono ?_; rintro e w' ⟨rfl, rfl⟩) | (go_at_call 9; refine (lives26_any _).mono ?_; rintro e w6 ⟨rfl, hb⟩; have HB6 := Lib.hid hb; clear hb) | (go_at_call 15; refine (HP.out _).mono ?_; rintro e w' ⟨rfl, rfl⟩) | (go_at_call 16; refine (HS.out _).mono ?_; rintro e w' ⟨rfl, rfl⟩))
    go_ret
    exact ⟨rfl, HB6.out⟩
  replace c1 := Decidable.not_not.1 c1
  by_cases c2 : ¬ (0 ≤ dir)
  · skip
    have HF : Hid (∀ W : World, Calls Try.prog 14 #[.int .i64 n, .int .i64 more, .int .i64 dir] W fun e w' => e = .returned (.bool false) ∧ W = w') := fun W => by
      have := fits_any n more dir W
      rwa [fitsB_no (by omega)] at this
    have d0 : decide (0 ≤ n) = true := by first | (simp; done) | (simp; omega)
    have d1 : decide (0 ≤ more) = true := by first | (simp; done) | (simp; omega)
    have d2 : decide (0 ≤ dir) = false := by first | (simp; done) | (simp; omega)
    have HP := Lib.hid (fun W => pieces_no n W hlow)
    have HS := Lib.hid (fun W => sectors_no n W hlow)
    have HCP := Lib.hid (fun W => capacity_no n W (.inl hlow))
    have e1 : decide (n < 1) = true := by simp; omega
    clear c0 c1 c2 hlow
    go_enter Try.func4, Try.ntmps4
    go_wp2_with (first | (go_at_call 14; refine (HF.out _).mono ?_; rintro e w' ⟨rfl, rfl⟩) | (go_at_call 17; refine (HCP.out _).mono ?_; rintro e w' ⟨rfl, rfl⟩) | (go_at_call 9; refine (lives26_any _).mono ?_; rintro e w6 ⟨rfl, hb⟩; have HB6 := Lib.hid hb; clear hb) | (go_at_call 15; refine (HP.out _).mono ?_; rintro e w' ⟨rfl, rfl⟩) | (go_at_call 16; refine (HS.out _).mono ?_; rintro e w' ⟨rfl, rfl⟩))
    go_ret
    exact ⟨rfl, HB6.out⟩
  replace c2 := Decidable.not_not.1 c2
  have c3 : n ≤ 2097152 := by omega
  by_cases c4 : ¬ (more ≤ 2097152 - n)
  · skip
    have HF : Hid (∀ W : World, Calls Try.prog 14 #[.int .i64 n, .int .i64 more, .int .i64 dir] W fun e w' => e = .returned (.bool false) ∧ W = w') := fun W => by
      have := fits_any n more dir W
      rwa [fitsB_no (by omega)] at this
    have d0 : decide (0 ≤ n) = true := by first | (simp; done) | (simp; omega)
    have d1 : decide (0 ≤ more) = true := by first | (simp; done) | (simp; omega)
    have d2 : decide (0 ≤ dir) = true := by first | (simp; done) | (simp; omega)
    have d3 : decide (n ≤ 2097152) = true := by first | (simp; done) | (simp; omega)
    have d4 : decide (more ≤ 2097152 - n) = false := by first | (simp; done) | (simp; omega)
    have HP := Lib.hid (fun W => pieces_no n W hlow)
    have HS := Lib.hid (fun W => sectors_no n W hlow)
    have HCP := Lib.hid (fun W => capacity_no n W (.inl hlow))
    have e1 : decide (n < 1) = true := by simp; omega
    have b4 : IntKind.i64.wrap (2097152 - n) = 2097152 - n := wrap26 _ (by omega) (by omega)
    clear c0 c1 c2 c3 c4 hlow
    go_enter Try.func4, Try.ntmps4
    go_wp2_with (first | (go_at_call 14; refine (HF.out _).mono ?_; rintro e w' ⟨rfl, rfl⟩) | (go_at_call 17; refine (HCP.out _).mono ?_; rintro e w' ⟨rfl, rfl⟩) | (go_at_call 9; refine (lives26_any _).mono ?_; rintro e w6 ⟨rfl, hb⟩; have HB6 := Lib.hid hb; clear hb) | (go_at_call 15; refine (HP.out _).mono ?_; rintro e w' ⟨rfl, rfl⟩) | (go_at_call 16; refine (HS.out _).mono ?_; rintro e w' ⟨rfl, rfl⟩))
    go_ret
    exact ⟨rfl, HB6.out⟩
  replace c4 := Decidable.not_not.1 c4
  by_cases c5 : ¬ (dir ≤ 2097152 - n - more)
  · skip
    have HF : Hid (∀ W : World, Calls Try.prog 14 #[.int .i64 n, .int .i64 more, .int .i64 dir] W fun e w' => e = .returned (.bool false) ∧ W = w') := fun W => by
      have := fits_any n more dir W
      rwa [fitsB_no (by omega)] at this
    have d0 : decide (0 ≤ n) = true := by first | (simp; done) | (simp; omega)
    have d1 : decide (0 ≤ more) = true := by first | (simp; done) | (simp; omega)
    have d2 : decide (0 ≤ dir) = true := by first | (simp; done) | (simp; omega)
    have d3 : decide (n ≤ 2097152) = true := by first | (simp; done) | (simp; omega)
    have d4 : decide (more ≤ 2097152 - n) = true := by first | (simp; done) | (simp; omega)
    have d5 : decide (dir ≤ 2097152 - n - more) = false := by first | (simp; done) | (simp; omega)
    have HP := Lib.hid (fun W => pieces_no n W hlow)
    have HS := Lib.hid (fun W => sectors_no n W hlow)
    have HCP := Lib.hid (fun W => capacity_no n W (.inl hlow))
    have e1 : decide (n < 1) = true := by simp; omega
    have b4 : IntKind.i64.wrap (2097152 - n) = 2097152 - n := wrap26 _ (by omega) (by omega)
    have b5 : IntKind.i64.wrap (2097152 - n - more) = 2097152 - n - more := wrap26 _ (by omega) (by omega)
    clear c0 c1 c2 c3 c4 c5 hlow
    go_enter Try.func4, Try.ntmps4
    go_wp2_with (first | (go_at_call 14; refine (HF.out _).mono ?_; rintro e w' ⟨rfl, rfl⟩) | (go_at_call 17; refine (HCP.out _).mono ?_; rintro e w' ⟨rfl, rfl⟩) | (go_at_call 9; refine (lives26_any _).mono ?_; rintro e w6 ⟨rfl, hb⟩; have HB6 := Lib.hid hb; clear hb) | (go_at_call 15; refine (HP.out _).mono ?_; rintro e w' ⟨rfl, rfl⟩) | (go_at_call 16; refine (HS.out _).mono ?_; rintro e w' ⟨rfl, rfl⟩))
    go_ret
    exact ⟨rfl, HB6.out⟩
  replace c5 := Decidable.not_not.1 c5
  have HF : Hid (∀ W : World, Calls Try.prog 14 #[.int .i64 n, .int .i64 more, .int .i64 dir] W fun e w' => e = .returned (.bool true) ∧ W = w') := fun W => by
    have := fits_any n more dir W
    rwa [fitsB_yes (by omega)] at this
  have d0 : decide (0 ≤ n) = true := by first | (simp; done) | (simp; omega)
  have d1 : decide (0 ≤ more) = true := by first | (simp; done) | (simp; omega)
  have d2 : decide (0 ≤ dir) = true := by first | (simp; done) | (simp; omega)
  have d3 : decide (n ≤ 2097152) = true := by first | (simp; done) | (simp; omega)
  have d4 : decide (more ≤ 2097152 - n) = true := by first | (simp; done) | (simp; omega)
  have d5 : decide (dir ≤ 2097152 - n - more) = true := by first | (simp; done) | (simp; omega)
  have HP := Lib.hid (fun W => pieces_no n W hlow)
  have HS := Lib.hid (fun W => sectors_no n W hlow)
  have HCP := Lib.hid (fun W => capacity_no n W (.inl hlow))
  have e1 : decide (n < 1) = true := by simp; omega
  have b4 : IntKind.i64.wrap (2097152 - n) = 2097152 - n := wrap26 _ (by omega) (by omega)
  have b5 : IntKind.i64.wrap (2097152 - n - more) = 2097152 - n - more := wrap26 _ (by omega) (by omega)
  clear c0 c1 c2 c3 c4 c5 hlow
  go_enter Try.func4, Try.ntmps4
  go_wp2_with (first | (go_at_call 14; refine (HF.out _).mono ?_; rintro e w' ⟨rfl, rfl⟩) | (go_at_call 17; refine (HCP.out _).mono ?_; rintro e w' ⟨rfl, rfl⟩) | (go_at_call 9; refine (lives26_any _).mono ?_; rintro e w6 ⟨rfl, hb⟩; have HB6 := Lib.hid hb; clear hb) | (go_at_call 15; refine (HP.out _).mono ?_; rintro e w' ⟨rfl, rfl⟩) | (go_at_call 16; refine (HS.out _).mono ?_; rintro e w' ⟨rfl, rfl⟩))
  go_ret
  exact ⟨rfl, HB6.out⟩

set_option maxHeartbeats 1000000 in
theorem counts_high (n more dir : Int) (w : World) (hhigh : 2097152 < n) :
    Calls Try.prog 4 #[.int .i64 n, .int .i64 more, .int .i64 dir] w fun e w' => e = .returned (.bool true) ∧ Below w.heap.size w w' := by
  have c0 : 0 ≤ n := by omega
  by_cases c1 : ¬ (0 ≤ more)
  · skip
    have HF : Hid (∀ W : World, Calls Try.prog 14 #[.int .i64 n, .int .i64 more, .int .i64 dir] W fun e w' => e = .returned (.bool false) ∧ W = w') := fun W => by
      have := fits_any n more dir W
      rwa [fitsB_no (by omega)] at this
    have d0 : decide (0 ≤ n) = true := by first | (simp; done) | (simp; omega)
    have d1 : decide (0 ≤ more) = false := by first | (simp; done) | (simp; omega)
    have HCP := Lib.hid (fun W => capacity_no n W (.inr hhigh))
    have e1 : decide (n < 1) = false := by simp; omega
    have e2 : decide (2097152 < n) = true := by simp; omega
    clear c0 c1 hhigh
    go_enter Try.func4, Try.ntmps4
    go_wp2_with (first | (go_at_call 14; refine (HF.out _).mono ?_; rintro e w' ⟨rfl, rfl⟩) | (go_at_call 17; refine (HCP.out _).mono ?_; rintro e w' ⟨rfl, rfl⟩) | (go_at_call 9; refine (lives26_any _).mono ?_; rintro e w6 ⟨rfl, hb⟩; have HB6 := Lib.hid hb; clear hb))
    go_ret
    exact ⟨rfl, HB6.out⟩
  replace c1 := Decidable.not_not.1 c1
  by_cases c2 : ¬ (0 ≤ dir)
  · skip
    have HF : Hid (∀ W : World, Calls Try.prog 14 #[.int .i64 n, .int .i64 more, .int .i64 dir] W fun e w' => e = .returned (.bool false) ∧ W = w') := fun W => by
      have := fits_any n more dir W
      rwa [fitsB_no (by omega)] at this
    have d0 : decide (0 ≤ n) = true := by first | (simp; done) | (simp; omega)
    have d1 : decide (0 ≤ more) = true := by first | (simp; done) | (simp; omega)
    have d2 : decide (0 ≤ dir) = false := by first | (simp; done) | (simp; omega)
    have HCP := Lib.hid (fun W => capacity_no n W (.inr hhigh))
    have e1 : decide (n < 1) = false := by simp; omega
    have e2 : decide (2097152 < n) = true := by simp; omega
    clear c0 c1 c2 hhigh
    go_enter Try.func4, Try.ntmps4
    go_wp2_with (first | (go_at_call 14; refine (HF.out _).mono ?_; rintro e w' ⟨rfl, rfl⟩) | (go_at_call 17; refine (HCP.out _).mono ?_; rintro e w' ⟨rfl, rfl⟩) | (go_at_call 9; refine (lives26_any _).mono ?_; rintro e w6 ⟨rfl, hb⟩; have HB6 := Lib.hid hb; clear hb))
    go_ret
    exact ⟨rfl, HB6.out⟩
  replace c2 := Decidable.not_not.1 c2
  have c3 : ¬ n ≤ 2097152 := by omega
  have HF : Hid (∀ W : World, Calls Try.prog 14 #[.int .i64 n, .int .i64 more, .int .i64 dir] W fun e w' => e = .returned (.bool false) ∧ W = w') := fun W => by
    have := fits_any n more dir W
    rwa [fitsB_no (by omega)] at this
  have d0 : decide (0 ≤ n) = true := by first | (simp; done) | (simp; omega)
  have d1 : decide (0 ≤ more) = true := by first | (simp; done) | (simp; omega)
  have d2 : decide (0 ≤ dir) = true := by first | (simp; done) | (simp; omega)
  have d3 : decide (n ≤ 2097152) = false := by first | (simp; done) | (simp; omega)
  have HCP := Lib.hid (fun W => capacity_no n W (.inr hhigh))
  have e1 : decide (n < 1) = false := by simp; omega
  have e2 : decide (2097152 < n) = true := by simp; omega
  clear c0 c1 c2 c3 hhigh
  go_enter Try.func4, Try.ntmps4
  go_wp2_with (first | (go_at_call 14; refine (HF.out _).mono ?_; rintro e w' ⟨rfl, rfl⟩) | (go_at_call 17; refine (HCP.out _).mono ?_; rintro e w' ⟨rfl, rfl⟩) | (go_at_call 9; refine (lives26_any _).mono ?_; rintro e w6 ⟨rfl, hb⟩; have HB6 := Lib.hid hb; clear hb))
  go_ret
  exact ⟨rfl, HB6.out⟩

set_option maxHeartbeats 1000000 in
theorem counts_mid (k : Nat) (more dir : Int) (w : World) (k1 : 1 ≤ k) (k2 : k ≤ 2097152) :
    Calls Try.prog 4 #[.int .i64 (k : Int), .int .i64 more, .int .i64 dir] w fun e w' => e = .returned (.bool true) ∧ Below w.heap.size w w' := by
  have c0 : 0 ≤ (k : Int) := by omega
  by_cases c1 : ¬ (0 ≤ more)
  · skip
    have HF : Hid (∀ W : World, Calls Try.prog 14 #[.int .i64 (k : Int), .int .i64 more, .int .i64 dir] W fun e w' => e = .returned (.bool false) ∧ W = w') := fun W => by
      have := fits_any (k : Int) more dir W
      rwa [fitsB_no (by omega)] at this
    have d0 : decide (0 ≤ (k : Int)) = true := by first | (simp; done) | (simp; omega)
    have d1 : decide (0 ≤ more) = false := by first | (simp; done) | (simp; omega)
    have HP := Lib.hid (fun W => pieces_yes k W (by omega) (by omega))
    have HS := Lib.hid (fun W => sectors_yes k W (by omega) (by omega))
    have HCP := Lib.hid (fun W => capacity_yes k W (by omega) (by omega))
    have HR5 := Lib.hid (fun W => rparts_any k 512 W (by omega) (by omega) (by omega))
    have HR6 := Lib.hid (fun W => rparts_any k 65535 W (by omega) (by omega) (by omega))
    have hq5 := partsC_le k 512 (by omega)
    have hq6 := partsC_le k 65535 (by omega)
    have e1 : decide ((k : Int) < 1) = false := by simp; omega
    have e2 : decide (2097152 < (k : Int)) = false := by simp; omega
    generalize partsC k 512 = q5 at *
    generalize partsC k 65535 = q6 at *
    clear c0 c1
    go_enter Try.func4, Try.ntmps4
    go_wp2_with (first | (go_at_call 14; refine (HF.out _).mono ?_; rintro e w' ⟨rfl, rfl⟩) | (go_at_call 17; refine (HCP.out _).mono ?_; rintro e w' ⟨rfl, rfl⟩) | (go_at_call 9; refine (lives26_any _).mono ?_; rintro e w6 ⟨rfl, hb⟩; have HB6 := Lib.hid hb; clear hb) | (go_at_call 15; refine (HP.out _).mono ?_; rintro e w' ⟨rfl, rfl⟩) | (go_at_call 16; refine (HS.out _).mono ?_; rintro e w' ⟨rfl, rfl⟩) | (go_at_call 18; refine (HR5.out _).mono ?_; clear HR5; rintro e w' ⟨rfl, rfl⟩) | (go_at_call 18; refine (HR6.out _).mono ?_; clear HR6; rintro e w' ⟨rfl, rfl⟩))
    go_ret
    exact ⟨rfl, HB6.out⟩
  replace c1 := Decidable.not_not.1 c1
  by_cases c2 : ¬ (0 ≤ dir)
  · skip
    have HF : Hid (∀ W : World, Calls Try.prog 14 #[.int .i64 (k : Int), .int .i64 more, .int .i64 dir] W fun e w' => e = .returned (.bool false) ∧ W = w') := fun W => by
      have := fits_any (k : Int) more dir W
      rwa [fitsB_no (by omega)] at this
    have d0 : decide (0 ≤ (k : Int)) = true := by first | (simp; done) | (simp; omega)
    have d1 : decide (0 ≤ more) = true := by first | (simp; done) | (simp; omega)
    have d2 : decide (0 ≤ dir) = false := by first | (simp; done) | (simp; omega)
    have HP := Lib.hid (fun W => pieces_yes k W (by omega) (by omega))
    have HS := Lib.hid (fun W => sectors_yes k W (by omega) (by omega))
    have HCP := Lib.hid (fun W => capacity_yes k W (by omega) (by omega))
    have HR5 := Lib.hid (fun W => rparts_any k 512 W (by omega) (by omega) (by omega))
    have HR6 := Lib.hid (fun W => rparts_any k 65535 W (by omega) (by omega) (by omega))
    have hq5 := partsC_le k 512 (by omega)
    have hq6 := partsC_le k 65535 (by omega)
    have e1 : decide ((k : Int) < 1) = false := by simp; omega
    have e2 : decide (2097152 < (k : Int)) = false := by simp; omega
    generalize partsC k 512 = q5 at *
    generalize partsC k 65535 = q6 at *
    clear c0 c1 c2
    go_enter Try.func4, Try.ntmps4
    go_wp2_with (first | (go_at_call 14; refine (HF.out _).mono ?_; rintro e w' ⟨rfl, rfl⟩) | (go_at_call 17; refine (HCP.out _).mono ?_; rintro e w' ⟨rfl, rfl⟩) | (go_at_call 9; refine (lives26_any _).mono ?_; rintro e w6 ⟨rfl, hb⟩; have HB6 := Lib.hid hb; clear hb) | (go_at_call 15; refine (HP.out _).mono ?_; rintro e w' ⟨rfl, rfl⟩) | (go_at_call 16; refine (HS.out _).mono ?_; rintro e w' ⟨rfl, rfl⟩) | (go_at_call 18; refine (HR5.out _).mono ?_; clear HR5; rintro e w' ⟨rfl, rfl⟩) | (go_at_call 18; refine (HR6.out _).mono ?_; clear HR6; rintro e w' ⟨rfl, rfl⟩))
    go_ret
    exact ⟨rfl, HB6.out⟩
  replace c2 := Decidable.not_not.1 c2
  have c3 : (k : Int) ≤ 2097152 := by omega
  by_cases c4 : ¬ (more ≤ 2097152 - (k : Int))
  · skip
    have HF : Hid (∀ W : World, Calls Try.prog 14 #[.int .i64 (k : Int), .int .i64 more, .int .i64 dir] W fun e w' => e = .returned (.bool false) ∧ W = w') := fun W => by
      have := fits_any (k : Int) more dir W
      rwa [fitsB_no (by omega)] at this
    have d0 : decide (0 ≤ (k : Int)) = true := by first | (simp; done) | (simp; omega)
    have d1 : decide (0 ≤ more) = true := by first | (simp; done) | (simp; omega)
    have d2 : decide (0 ≤ dir) = true := by first | (simp; done) | (simp; omega)
    have d3 : decide ((k : Int) ≤ 2097152) = true := by first | (simp; done) | (simp; omega)
    have d4 : decide (more ≤ 2097152 - (k : Int)) = false := by first | (simp; done) | (simp; omega)
    have HP := Lib.hid (fun W => pieces_yes k W (by omega) (by omega))
    have HS := Lib.hid (fun W => sectors_yes k W (by omega) (by omega))
    have HCP := Lib.hid (fun W => capacity_yes k W (by omega) (by omega))
    have HR5 := Lib.hid (fun W => rparts_any k 512 W (by omega) (by omega) (by omega))
    have HR6 := Lib.hid (fun W => rparts_any k 65535 W (by omega) (by omega) (by omega))
    have hq5 := partsC_le k 512 (by omega)
    have hq6 := partsC_le k 65535 (by omega)
    have e1 : decide ((k : Int) < 1) = false := by simp; omega
    have e2 : decide (2097152 < (k : Int)) = false := by simp; omega
    generalize partsC k 512 = q5 at *
    generalize partsC k 65535 = q6 at *
    have b4 : IntKind.i64.wrap (2097152 - (k : Int)) = 2097152 - (k : Int) := wrap26 _ (by omega) (by omega)
    clear c0 c1 c2 c3 c4
    go_enter Try.func4, Try.ntmps4
    go_wp2_with (first | (go_at_call 14; refine (HF.out _).mono ?_; rintro e w' ⟨rfl, rfl⟩) | (go_at_call 17; refine (HCP.out _).mono ?_; rintro e w' ⟨rfl, rfl⟩) | (go_at_call 9; refine (lives26_any _).mono ?_; rintro e w6 ⟨rfl, hb⟩; have HB6 := Lib.hid hb; clear hb) | (go_at_call 15; refine (HP.out _).mono ?_; rintro e w' ⟨rfl, rfl⟩) | (go_at_call 16; refine (HS.out _).mono ?_; rintro e w' ⟨rfl, rfl⟩) | (go_at_call 18; refine (HR5.out _).mono ?_; clear HR5; rintro e w' ⟨rfl, rfl⟩) | (go_at_call 18; refine (HR6.out _).mono ?_; clear HR6; rintro e w' ⟨rfl, rfl⟩))
    go_ret
    exact ⟨rfl, HB6.out⟩
  replace c4 := Decidable.not_not.1 c4
  by_cases c5 : ¬ (dir ≤ 2097152 - (k : Int) - more)
  · skip
    have HF : Hid (∀ W : World, Calls Try.prog 14 #[.int .i64 (k : Int), .int .i64 more, .int .i64 dir] W fun e w' => e = .returned (.bool false) ∧ W = w') := fun W => by
      have := fits_any (k : Int) more dir W
      rwa [fitsB_no (by omega)] at this
    have d0 : decide (0 ≤ (k : Int)) = true := by first | (simp; done) | (simp; omega)
    have d1 : decide (0 ≤ more) = true := by first | (simp; done) | (simp; omega)
    have d2 : decide (0 ≤ dir) = true := by first | (simp; done) | (simp; omega)
    have d3 : decide ((k : Int) ≤ 2097152) = true := by first | (simp; done) | (simp; omega)
    have d4 : decide (more ≤ 2097152 - (k : Int)) = true := by first | (simp; done) | (simp; omega)
    have d5 : decide (dir ≤ 2097152 - (k : Int) - more) = false := by first | (simp; done) | (simp; omega)
    have HP := Lib.hid (fun W => pieces_yes k W (by omega) (by omega))
    have HS := Lib.hid (fun W => sectors_yes k W (by omega) (by omega))
    have HCP := Lib.hid (fun W => capacity_yes k W (by omega) (by omega))
    have HR5 := Lib.hid (fun W => rparts_any k 512 W (by omega) (by omega) (by omega))
    have HR6 := Lib.hid (fun W => rparts_any k 65535 W (by omega) (by omega) (by omega))
    have hq5 := partsC_le k 512 (by omega)
    have hq6 := partsC_le k 65535 (by omega)
    have e1 : decide ((k : Int) < 1) = false := by simp; omega
    have e2 : decide (2097152 < (k : Int)) = false := by simp; omega
    generalize partsC k 512 = q5 at *
    generalize partsC k 65535 = q6 at *
    have b4 : IntKind.i64.wrap (2097152 - (k : Int)) = 2097152 - (k : Int) := wrap26 _ (by omega) (by omega)
    have b5 : IntKind.i64.wrap (2097152 - (k : Int) - more) = 2097152 - (k : Int) - more := wrap26 _ (by omega) (by omega)
    clear c0 c1 c2 c3 c4 c5
    go_enter Try.func4, Try.ntmps4
    go_wp2_with (first | (go_at_call 14; refine (HF.out _).mono ?_; rintro e w' ⟨rfl, rfl⟩) | (go_at_call 17; refine (HCP.out _).mono ?_; rintro e w' ⟨rfl, rfl⟩) | (go_at_call 9; refine (lives26_any _).mono ?_; rintro e w6 ⟨rfl, hb⟩; have HB6 := Lib.hid hb; clear hb) | (go_at_call 15; refine (HP.out _).mono ?_; rintro e w' ⟨rfl, rfl⟩) | (go_at_call 16; refine (HS.out _).mono ?_; rintro e w' ⟨rfl, rfl⟩) | (go_at_call 18; refine (HR5.out _).mono ?_; clear HR5; rintro e w' ⟨rfl, rfl⟩) | (go_at_call 18; refine (HR6.out _).mono ?_; clear HR6; rintro e w' ⟨rfl, rfl⟩))
    go_ret
    exact ⟨rfl, HB6.out⟩
  replace c5 := Decidable.not_not.1 c5
  have HF : Hid (∀ W : World, Calls Try.prog 14 #[.int .i64 (k : Int), .int .i64 more, .int .i64 dir] W fun e w' => e = .returned (.bool true) ∧ W = w') := fun W => by
    have := fits_any (k : Int) more dir W
    rwa [fitsB_yes (by omega)] at this
  have d0 : decide (0 ≤ (k : Int)) = true := by first | (simp; done) | (simp; omega)
  have d1 : decide (0 ≤ more) = true := by first | (simp; done) | (simp; omega)
  have d2 : decide (0 ≤ dir) = true := by first | (simp; done) | (simp; omega)
  have d3 : decide ((k : Int) ≤ 2097152) = true := by first | (simp; done) | (simp; omega)
  have d4 : decide (more ≤ 2097152 - (k : Int)) = true := by first | (simp; done) | (simp; omega)
  have d5 : decide (dir ≤ 2097152 - (k : Int) - more) = true := by first | (simp; done) | (simp; omega)
  have HP := Lib.hid (fun W => pieces_yes k W (by omega) (by omega))
  have HS := Lib.hid (fun W => sectors_yes k W (by omega) (by omega))
  have HCP := Lib.hid (fun W => capacity_yes k W (by omega) (by omega))
  have HR5 := Lib.hid (fun W => rparts_any k 512 W (by omega) (by omega) (by omega))
  have HR6 := Lib.hid (fun W => rparts_any k 65535 W (by omega) (by omega) (by omega))
  have hq5 := partsC_le k 512 (by omega)
  have hq6 := partsC_le k 65535 (by omega)
  have e1 : decide ((k : Int) < 1) = false := by simp; omega
  have e2 : decide (2097152 < (k : Int)) = false := by simp; omega
  generalize partsC k 512 = q5 at *
  generalize partsC k 65535 = q6 at *
  have b4 : IntKind.i64.wrap (2097152 - (k : Int)) = 2097152 - (k : Int) := wrap26 _ (by omega) (by omega)
  have b5 : IntKind.i64.wrap (2097152 - (k : Int) - more) = 2097152 - (k : Int) - more := wrap26 _ (by omega) (by omega)
  clear c0 c1 c2 c3 c4 c5
  go_enter Try.func4, Try.ntmps4
  go_wp2_with (first | (go_at_call 14; refine (HF.out _).mono ?_; rintro e w' ⟨rfl, rfl⟩) | (go_at_call 17; refine (HCP.out _).mono ?_; rintro e w' ⟨rfl, rfl⟩) | (go_at_call 9; refine (lives26_any _).mono ?_; rintro e w6 ⟨rfl, hb⟩; have HB6 := Lib.hid hb; clear hb) | (go_at_call 15; refine (HP.out _).mono ?_; rintro e w' ⟨rfl, rfl⟩) | (go_at_call 16; refine (HS.out _).mono ?_; rintro e w' ⟨rfl, rfl⟩) | (go_at_call 18; refine (HR5.out _).mono ?_; clear HR5; rintro e w' ⟨rfl, rfl⟩) | (go_at_call 18; refine (HR6.out _).mono ?_; clear HR6; rintro e w' ⟨rfl, rfl⟩))
  go_ret
  exact ⟨rfl, HB6.out⟩

theorem counts_any (n more dir : Int) (w : World) :
    Calls Try.prog 4 #[.int .i64 n, .int .i64 more, .int .i64 dir] w fun e w' => e = .returned (.bool true) ∧ Below w.heap.size w w' := by
  by_cases h1 : n < 1
  · exact counts_low n more dir w h1
  by_cases h2 : 2097152 < n
  · exact counts_high n more dir w h2
  · obtain ⟨k, rfl⟩ := Int.eq_ofNat_of_zero_le (show 0 ≤ n by omega)
    exact counts_mid k more dir w (by omega) (by omega)
end Go.Proofs.Ytkggobndofjclaa
