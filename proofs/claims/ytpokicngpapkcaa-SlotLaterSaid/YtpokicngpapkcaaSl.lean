/- Layer 21: which slots may be, where they stand, how they are put. -/
import Derived.Test.YtpokicngpapkcaaKSum
import Derived.Test.YtpokicngpapkcaaTailZ
import Derived.Test.YtpokicngpapkcaaKSts
namespace Go.Proofs.Ytpokicngpapkcaa
open Go.RowKit CrcP FieldP
attribute [local go_sem ↓] Go.wp_at_zero Go.wp_at_succ

/-- May a slot be? -/
def slP (q e d : Int) (c : Bool) : Prop := 0 ≤ q ∧ q ≤ 2147483647 ∧ 1024 ≤ e ∧ e ≤ 2097152 ∧ (if c = true then 20 ≤ d ∧ d ≤ 16420 ∧ e + d ≤ 2097152 else d = 0)
instance (q e d : Int) (c : Bool) : Decidable (slP q e d c) := by unfold slP; infer_instance
def slB (q e d : Int) (c : Bool) : Bool := decide (slP q e d c)
theorem slB_no {q e d : Int} {c : Bool} (h : ¬ slP q e d c) : slB q e d c = false := decide_eq_false h
theorem slB_yes {q e d : Int} {c : Bool} (h : slP q e d c) : slB q e d c = true := decide_eq_true h
/-- A slot's cells. -/
def slC (q e d : Int) (c : Bool) : Array Value := #[.int .i64 q, .int .i64 e, .int .i64 d, .bool c]

set_option maxHeartbeats 400000 in
theorem within21_any (n a b : Int) (w : World) : Calls Try.prog 23 #[.int .i64 n, .int .i64 a, .int .i64 b] w fun e w' => e = .returned (.bool (decide (a ≤ n) && decide (n ≤ b))) ∧ w = w' := by
  by_cases h1 : a ≤ n
  · by_cases h2 : n ≤ b
    · have HD : Hid ((decide (a ≤ n) && decide (n ≤ b)) = true) := by show _ = _; simp [h1, h2]
      go_enter Try.func23, Try.ntmps23
      go_wp2
      go_ret
      exact ⟨by rw [HD.out]; rfl, rfl⟩
    · have HD : Hid ((decide (a ≤ n) && decide (n ≤ b)) = false) := by show _ = _; simp [h2]
      have h2' : decide (n ≤ b) = false := by simpa using h2
      clear h2
      go_enter Try.func23, Try.ntmps23
      go_wp2
      go_ret
      exact ⟨by rw [HD.out]; rfl, rfl⟩
  · have HD : Hid ((decide (a ≤ n) && decide (n ≤ b)) = false) := by show _ = _; simp [h1]
    go_enter Try.func23, Try.ntmps23
    go_wp2
    go_ret
    exact ⟨by rw [HD.out]; rfl, rfl⟩
theorem within21_no (n a b : Int) (w : World) (h : ¬ (a ≤ n ∧ n ≤ b)) : Calls Try.prog 23 #[.int .i64 n, .int .i64 a, .int .i64 b] w fun e w' => e = .returned (.bool false) ∧ w = w' := by
  have := within21_any n a b w
  rwa [show (decide (a ≤ n) && decide (n ≤ b)) = false by by_cases h1 : a ≤ n <;> by_cases h2 : n ≤ b <;> simp [h1, h2]; exact h ⟨h1, h2⟩] at this
theorem within21_yes (n a b : Int) (w : World) (h : a ≤ n ∧ n ≤ b) : Calls Try.prog 23 #[.int .i64 n, .int .i64 a, .int .i64 b] w fun e w' => e = .returned (.bool true) ∧ w = w' := by
  have := within21_any n a b w
  rwa [show (decide (a ≤ n) && decide (n ≤ b)) = true by simp [h.1, h.2]] at this

set_option maxHeartbeats 1000000 in
theorem slRight_any (q e d : Int) (c : Bool) (w : World) :
    Calls Try.prog 10 #[.agg #[.int .i64 q, .int .i64 e, .int .i64 d, .bool c]] w fun x w' => x = .returned (.bool (slB q e d c)) ∧ w.alloc (.cells (slC q e d c) 23) = w' := by
  unfold slC
  by_cases h1 : 0 ≤ q ∧ q ≤ 2147483647
  case neg =>
    have HO : Hid (slB q e d c = false) := slB_no fun h => h1 ⟨h.1, h.2.1⟩
    have HW := Lib.hid (fun W => within21_no q 0 2147483647 W h1)
    clear h1
    go_enter Try.func10, Try.ntmps10
    go_wp2_with (go_at_call 23; refine (HW.out _).mono ?_; rintro e w' ⟨rfl, rfl⟩)
    go_ret
    exact ⟨by rw [HO.out]; rfl, rfl⟩
  by_cases h2 : 1024 ≤ e ∧ e ≤ 2097152
  case neg =>
    have HO : Hid (slB q e d c = false) := slB_no fun h => h2 ⟨h.2.2.1, h.2.2.2.1⟩
    have HW := Lib.hid (fun W => within21_yes q 0 2147483647 W h1)
    have HW2 := Lib.hid (fun W => within21_no e 1024 2097152 W h2)
    clear h1 h2
    go_enter Try.func10, Try.ntmps10
    go_wp2_with (first | (go_at_call 23; refine (HW.out _).mono ?_; clear HW; rintro e w' ⟨rfl, rfl⟩) | (go_at_call 23; refine (HW2.out _).mono ?_; rintro e w' ⟨rfl, rfl⟩))
    go_ret
    exact ⟨by rw [HO.out]; rfl, rfl⟩
  have HW := Lib.hid (fun W => within21_yes q 0 2147483647 W h1)
  have HW2 := Lib.hid (fun W => within21_yes e 1024 2097152 W h2)
  cases c with
  | false =>
    have HO : Hid (slB q e d false = decide (d = 0)) := by show _ = _; unfold slB slP; simp [h1, h2]
    clear h1 h2
    go_enter Try.func10, Try.ntmps10
    go_wp2_with (first | (go_at_call 23; refine (HW.out _).mono ?_; clear HW; rintro e w' ⟨rfl, rfl⟩) | (go_at_call 23; refine (HW2.out _).mono ?_; rintro e w' ⟨rfl, rfl⟩))
    go_ret
    exact ⟨by rw [HO.out]; rfl, rfl⟩
  | true =>
    obtain ⟨m, hm⟩ : ∃ m : Int, (if 2097152 - e < 16420 then 2097152 - e else 16420) = m := ⟨_, rfl⟩
    have HO : Hid (slB q e d true = (decide (20 ≤ d) && decide (d ≤ m))) := by
      show _ = _
      unfold slB slP
      simp [h1, h2]
      by_cases h5 : 20 ≤ d
      · by_cases h6 : d ≤ m
        · simp [h5, h6]
          split at hm <;> omega
        · simp [h5, h6]
          split at hm <;> omega
      · simp [h5]
    have HW3 := Lib.hid (fun W => within21_any d 20 m W)
    have hwr : IntKind.i64.wrap (2097152 - e) = 2097152 - e := IntWalk.i64_in _ (by omega)
    by_cases hs : 2097152 - e < 16420
    · rw [if_pos hs] at hm
      subst hm
      clear h1 h2
      go_enter Try.func10, Try.ntmps10
      go_wp2_with (first | (go_at_call 23; refine (HW.out _).mono ?_; clear HW; rintro e w' ⟨rfl, rfl⟩) | (go_at_call 23; refine (HW2.out _).mono ?_; clear HW2; rintro e w' ⟨rfl, rfl⟩) | (go_at_call 23; refine (HW3.out _).mono ?_; rintro e w' ⟨rfl, rfl⟩))
      go_ret
      exact ⟨by rw [HO.out]; rfl, rfl⟩
    · rw [if_neg hs] at hm
      subst hm
      clear h1 h2
      go_enter Try.func10, Try.ntmps10
      go_wp2_with (first | (go_at_call 23; refine (HW.out _).mono ?_; clear HW; rintro e w' ⟨rfl, rfl⟩) | (go_at_call 23; refine (HW2.out _).mono ?_; clear HW2; rintro e w' ⟨rfl, rfl⟩) | (go_at_call 23; refine (HW3.out _).mono ?_; rintro e w' ⟨rfl, rfl⟩))
      go_ret
      exact ⟨by rw [HO.out]; rfl, rfl⟩
/-- Where a slot stands. -/
def placeC (q : Int) : Int := if q.tmod 2 = 0 then 0 else 512
set_option maxHeartbeats 400000 in
theorem place_any (q : Int) (w : World) : Calls Try.prog 11 #[.int .i64 q] w fun x w' => x = .returned (.int .i64 (placeC q)) ∧ w = w' := by
  by_cases h : q.tmod 2 = 0
  · have HP : Hid (placeC q = 0) := by show _ = _; unfold placeC; rw [if_pos h]
    have hd : (q.tmod 2 == 0) = true := by simpa using h
    clear h
    go_enter Try.func11, Try.ntmps11
    go_wp2
    go_ret
    exact ⟨by rw [HP.out]; rfl, rfl⟩
  · have HP : Hid (placeC q = 512) := by show _ = _; unfold placeC; rw [if_neg h]
    have hd : (q.tmod 2 == 0) = false := by simpa using h
    clear h
    go_enter Try.func11, Try.ntmps11
    go_wp2
    go_ret
    exact ⟨by rw [HP.out]; rfl, rfl⟩
end Go.Proofs.Ytpokicngpapkcaa
