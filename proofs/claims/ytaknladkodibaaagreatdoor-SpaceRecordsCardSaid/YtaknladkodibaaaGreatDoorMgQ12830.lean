/- Layer 12, the document's answer: the number of a class and bits. -/
import Derived.Test.YtaknladkodibaaaGreatDoorMgQ12827
import Derived.BigQuiet
namespace Go.Proofs.YtaknladkodibaaaGreatDoor
open Go.RowKit SymP
attribute [local go_sem ↓] Go.wp_at_zero Go.wp_at_succ

end Go.Proofs.YtaknladkodibaaaGreatDoor
/- Layer 12: which tokens may be; their symbols. -/
namespace Go.Proofs.YtaknladkodibaaaGreatDoor
open Go.RowKit SymP
attribute [local go_sem ↓] Go.wp_at_zero Go.wp_at_succ

/-- May a token be? -/
def rightT (y l d : Int) : Bool := if l = 0 then decide (d = 0) else decide (3 ≤ l ∧ l ≤ 258 ∧ 1 ≤ d ∧ d ≤ 32768 ∧ y = 0)
theorem ret_bool12 {a b : Bool} (h : a = b) : Ending.returned (.bool a) = .returned (.bool b) := by rw [h]

theorem right_any (y l d : Int) (w : World) :
    Calls Tryz.prog 153 #[.agg #[.int .u8 y, .int .i64 l, .int .i64 d]] w fun e w' => e = .returned (.bool (rightT y l d)) ∧ w.alloc (.cells #[.int .u8 y, .int .i64 l, .int .i64 d] 164) = w' := by
  by_cases h : l = 0
  · subst h
    go_enter Tryz.func153, Tryz.ntmps153
    go_wp2
    go_ret
    refine ⟨ret_bool12 ?_, rfl⟩
    rw [Bool.eq_iff_iff]
    unfold rightT
    simp
  · go_enter Tryz.func153, Tryz.ntmps153
    go_wp2
    all_goals
      (go_ret
       refine ⟨ret_bool12 ?_, rfl⟩
       (try simp only [beq_eq_false_iff_ne] at *)
       rw [Bool.eq_iff_iff]
       unfold rightT
       split <;> simp <;> omega)
/-- A row of symbols as a value. -/
def agR (n1 b1 x1 n2 b2 x2 : Int) (m : Bool) : Value := .agg #[.int .i64 n1, .int .i64 b1, .int .u32 x1, .int .i64 n2, .int .i64 b2, .int .u32 x2, .bool m]

/-- A token's symbols: of none; of a byte; of a match. -/
theorem split_no (y l d : Int) (w : World) (h : rightT y l d = false) :
    Calls Tryz.prog 109 #[.agg #[.int .u8 y, .int .i64 l, .int .i64 d]] w fun e w' => e = .returned (.tuple #[agR 0 0 0 0 0 0 false, .bool false]) ∧ Below w.heap.size w w' := by
  have HR := Lib.hid (fun W => right_any y l d W)
  rw [h] at HR
  clear h
  go_enter Tryz.func109, Tryz.ntmps109
  go_wp2_with (go_at_call 153; refine (HR.out _).mono ?_; rintro e w4 ⟨rfl, rfl⟩)
  refine bodyPost_ret (v := .tuple #[agR 0 0 0 0 0 0 false, .bool false]) ?_ rfl ⟨rfl, ?_⟩
  · rw [results_cell_tmp rfl]
    go_simp
    rfl
  · repeat (first | exact Below.refl _ _ | refine Below.drew ?_ | refine Below.alloc ?_ (by simp <;> omega) _)
theorem split_byte (y : Nat) (w : World) (hy : y < 256) :
    Calls Tryz.prog 109 #[.agg #[.int .u8 y, .int .i64 0, .int .i64 0]] w fun e w' => e = .returned (.tuple #[agR y 0 0 0 0 0 false, .bool true]) ∧ Below w.heap.size w w' := by
  have HR := Lib.hid (fun W => right_any y 0 0 W)
  rw [show rightT y 0 0 = true from rfl] at HR
  have hw : IntKind.i64.wrap (y : Int) = y := IntWalk.i64_in _ (by omega)
  go_enter Tryz.func109, Tryz.ntmps109
  go_wp2_with (go_at_call 153; refine (HR.out _).mono ?_; rintro e w4 ⟨rfl, rfl⟩)
  refine bodyPost_ret (v := .tuple #[agR y 0 0 0 0 0 false, .bool true]) ?_ rfl ⟨rfl, ?_⟩
  · rw [results_cell_tmp rfl]
    go_simp
    rfl
  · repeat (first | exact Below.refl _ _ | refine Below.drew ?_ | refine Below.alloc ?_ (by simp <;> omega) _)
set_option maxHeartbeats 1000000 in
theorem split_match (l d : Nat) (w : World) (l0 : l < 256) (d0 : d < 32768) :
    Calls Tryz.prog 109 #[.agg #[.int .u8 0, .int .i64 (l + 3 : Nat), .int .i64 (d + 1 : Nat)]] w fun e w' => e = .returned (.tuple #[agR (classC l + 257 : Nat) (bitsC (classC l) : Nat) (l % 2 ^ bitsC (classC l) : Nat) (classC d : Nat) (bitsC (classC d) : Nat) (d % 2 ^ bitsC (classC d) : Nat) true, .bool true]) ∧ Below w.heap.size w w' := by
  have HR := Lib.hid (fun W => right_any 0 ((l + 3 : Nat) : Int) ((d + 1 : Nat) : Int) W)
  rw [show rightT 0 ((l + 3 : Nat) : Int) ((d + 1 : Nat) : Int) = true by unfold rightT; rw [if_neg (by omega)]; simp; omega] at HR
  have HL := Lib.hid (fun W => of_inx l W (by omega))
  have HD := Lib.hid (fun W => of_inx d W d0)
  have hc := (class_is l (by omega)).1
  generalize classC l = c1 at *
  generalize classC d = c2 at *
  generalize bitsC c1 = b1 at *
  generalize bitsC c2 = b2 at *
  generalize l % 2 ^ b1 = x1 at *
  generalize d % 2 ^ b2 = x2 at *
  obtain ⟨L, hL⟩ : ∃ L, l + 3 = L := ⟨_, rfl⟩
  obtain ⟨D, hD⟩ : ∃ D, d + 1 = D := ⟨_, rfl⟩
  rw [hL, hD] at HR ⊢
  have hw : IntKind.i64.wrap ((L : Int) - 3) = l := by rw [IntWalk.i64_in _ (by omega)]; omega
  have hv : IntKind.i64.wrap ((D : Int) - 1) = d := by rw [IntWalk.i64_in _ (by omega)]; omega
  have hu : IntKind.i64.wrap ((c1 : Int) + 257) = ((c1 + 257 : Nat) : Int) := by rw [IntWalk.i64_in _ (by omega)]; omega
  have hL0 : ((L : Int) == 0) = false := by simp; omega
  clear hL hD
  unfold agC at HL HD
  go_enter Tryz.func109, Tryz.ntmps109
  go_wp2_with (first
    | (go_at_call 153; refine (HR.out _).mono ?_; rintro e w4 ⟨rfl, rfl⟩)
    | (go_at_call 154; refine (HL.out _).mono ?_; clear HL; rintro e w4 ⟨rfl, rfl | rfl⟩)
    | (go_at_call 154; refine (HD.out _).mono ?_; clear HD; rintro e w4 ⟨rfl, rfl | rfl⟩))
  all_goals
    (refine bodyPost_ret (v := .tuple #[agR ((c1 + 257 : Nat) : Int) b1 x1 c2 b2 x2 true, .bool true]) ?_ rfl ⟨rfl, ?_⟩
     · rw [results_cell_tmp rfl]
       go_simp
       rfl
     · repeat (first | exact Below.refl _ _ | refine Below.drew ?_ | refine Below.alloc ?_ (by simp <;> omega) _))

end Go.Proofs.YtaknladkodibaaaGreatDoor
/- Layer 12: the token of symbols. -/
namespace Go.Proofs.YtaknladkodibaaaGreatDoor
open Go.RowKit SymP
attribute [local go_sem ↓] Go.wp_at_zero Go.wp_at_succ

section
variable (n1 b1 : Int) (x1 : Nat) (n2 b2 : Int) (x2 : Nat) (m : Bool) (ty tl td : Int)
end
end Go.Proofs.YtaknladkodibaaaGreatDoor
/- Layer 12: the token of symbols, and the document's answer for it. -/
namespace Go.Proofs.YtaknladkodibaaaGreatDoor
open Go.RowKit SymP
attribute [local go_sem ↓] Go.wp_at_zero Go.wp_at_succ

section
variable (n1 b1 : Int) (x1 : Nat) (n2 b2 : Int) (x2 : Nat)
end
end Go.Proofs.YtaknladkodibaaaGreatDoor
/- Layer 12: Join, whole. -/
namespace Go.Proofs.YtaknladkodibaaaGreatDoor
open Go.RowKit SymP

section
variable (n1 b1 : Int) (x1 : Nat) (n2 b2 : Int) (x2 : Nat)

end
end Go.Proofs.YtaknladkodibaaaGreatDoor
