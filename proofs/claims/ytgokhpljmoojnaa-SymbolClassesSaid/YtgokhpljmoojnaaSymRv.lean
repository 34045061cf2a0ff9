/- Layer 12, the document's answer: the number of a class and bits. -/
import Derived.Test.YtgokhpljmoojnaaSymVal
import Derived.BigQuiet
namespace Go.Proofs.Ytgokhpljmoojnaa
open Go.RowKit SymP
attribute [local go_sem ↓] Go.wp_at_zero Go.wp_at_succ

/-- A block of cells that was laid just now, behind draws. -/
theorem new_drewN (w : World) (cs : Array Value) (t : TypeId) (n : Nat) : ((w.alloc (.cells cs t)).drewN n).heap[w.heap.size]? = some (.cells cs t (0, 0)) := heap_alloc_last w _
theorem below_drewN (w : World) (o : Obj) (n : Nat) : Below w.heap.size w ((w.alloc o).drewN n) :=
  ⟨rfl, rfl, rfl, by show w.heap.size ≤ (w.alloc o).heap.size; simp, fun k hk => Below.heap_alloc w o k hk⟩

theorem below_dr {B : Nat} {w w' : World} (h : Below B w w') (n : Nat) : Below B w (w'.drewN n) := ⟨h.os, h.tape, h.output, h.size, h.block⟩
theorem ret2_int {k : IntKind} {a b : Int} {v : Value} (h : a = b) : Ending.returned (.tuple #[.int k a, v]) = .returned (.tuple #[.int k b, v]) := by rw [h]

theorem rvalue_out (n b : Int) (x : Nat) (w : World) (h : n < 0 ∨ 30 ≤ n) :
    Calls Try.prog 10 #[agC n b x] w fun e w' => e = .returned (.tuple #[.int .i64 0, .bool false]) ∧ Below w.heap.size w w' := by
  unfold agC
  by_cases h0 : n < 0
  · go_enter Try.func10, Try.ntmps10
    go_wp2
    go_quiet (fail)
    go_wp2
    go_ret2
    exact ⟨rfl, below_drewN _ _ _⟩
  · have h1 : 29 < n := by omega
    go_enter Try.func10, Try.ntmps10
    go_wp2
    go_quiet (fail)
    go_wp2
    go_ret2
    exact ⟨rfl, below_drewN _ _ _⟩
theorem rvalue_bits (m : Nat) (b : Int) (x : Nat) (w : World) (h : m < 30) (hb : ¬ b = (bitsC m : Nat)) :
    Calls Try.prog 10 #[agC m b x] w fun e w' => e = .returned (.tuple #[.int .i64 0, .bool false]) ∧ Below w.heap.size w w' := by
  unfold agC
  have HB := Lib.hid (fun W => bits12_any m W h)
  obtain ⟨q, hq⟩ : ∃ q, bitsC m = q := ⟨_, rfl⟩
  rw [hq] at HB hb
  clear hq
  have hbb : (b != (q : Int)) = true := by simpa using hb
  clear hb
  have hn0 : ¬ ((m : Int) < 0) := by omega
  have hn1 : ¬ ((29 : Int) < (m : Int)) := by omega
  go_enter Try.func10, Try.ntmps10
  go_wp2_with fail
  go_quiet ((go_at_call 14; exact quiet_left' (HB.out _)))
  go_wp2
  go_ret2
  exact ⟨rfl, below_drewN _ _ _⟩
theorem rvalue_some (m x : Nat) (w : World) (h : m < 30) (hx : x < 4294967296) (hxq : x < 2 ^ bitsC m) :
    Calls Try.prog 10 #[agC m (bitsC m : Nat) x] w fun e w' => e = .returned (.tuple #[.int .i64 (baseC m + x : Nat), .bool true]) ∧ Below w.heap.size w w' := by
  unfold agC
  have HB := Lib.hid (fun W => bits12_any m W h)
  have HS := Lib.hid (fun W => base12_any m W h)
  have hb13 := bitsC_le m h
  have htop := baseC_top m h
  obtain ⟨q, hq⟩ : ∃ q, bitsC m = q := ⟨_, rfl⟩
  rw [hq] at HB hb13 htop hxq ⊢
  obtain ⟨y, hy⟩ : ∃ y, baseC m = y := ⟨_, rfl⟩
  rw [hy] at HS htop ⊢
  clear hq hy
  have hn0 : ¬ ((m : Int) < 0) := by omega
  have hn1 : ¬ ((29 : Int) < (m : Int)) := by omega
  go_enter Try.func10, Try.ntmps10
  go_wp2_with fail
  go_quiet ((go_at_call 14; exact quiet_left' (HB.out _)))
  have HR := Lib.hid (new_drewN w #[.int .i64 m, .int .i64 q, .int .u32 x] 32 nq)
  have HBL := Lib.hid (below_drewN w (.cells #[.int .i64 m, .int .i64 q, .int .u32 x] 32) nq)
  obtain ⟨q0, q1, q2⟩ := row3_cells HR.out
  generalize (w.alloc (.cells #[.int .i64 m, .int .i64 q, .int .u32 x] 32)).drewN nq = w1 at *
  go_wp2
  go_loopg [4, 5] q (fun gk s v wr => ∃ j : Nat, j + gk = q ∧ v = .int .i64 (j : Int) ∧ s = .int .u32 ((2 : Int) ^ j) ∧ wr = w1)
  case atStart => exact ⟨0, by omega, rfl, rfl, rfl⟩
  case round =>
    obtain ⟨j, hj, rfl, rfl, rfl⟩ := hrel
    by_cases hjq : j < q
    · have HP : Hid (IntKind.u32.wrap ((2 : Int) ^ j * 2) = 2 ^ (j + 1)) := by
        have hp : 2 ^ (j + 1) ≤ 2 ^ 13 := Nat.pow_le_pow_right (by omega) (by omega)
        have hp0 : 0 < 2 ^ (j + 1) := Nat.pow_pos (by omega)
        have e : (2 : Int) ^ (j + 1) = ((2 ^ (j + 1) : Nat) : Int) := by rw [Int.natCast_pow]; rfl
        show _ = _
        rw [← Int.pow_succ, e]
        generalize 2 ^ (j + 1) = z at *
        rw [IntKind.wrap_u32]
        omega
      go_wp2
      go_roundg (q - 1 - j)
      case measure => omega
      case rel => exact ⟨j + 1, by omega, rfl, by rw [← HP.out, IntKind.wrap_u32], rfl⟩
    · obtain rfl : j = q := by omega
      have e : (2 : Int) ^ j = ((2 ^ j : Nat) : Int) := by rw [Int.natCast_pow]; rfl
      have HV : Hid (wrap64 ((y : Int) + x) = ((y + x : Nat) : Int)) := by
        show _ = _
        rw [← IntWalk.i64_left, ← Int.natCast_add]
        generalize 2 ^ j = z at *
        exact IntWalk.i64_in _ (by omega)
      have hxx : IntKind.i64.wrap (x : Int) = x := by
        generalize 2 ^ j = z at *
        exact IntWalk.i64_in _ (by omega)
      have hd : ¬ ((2 : Int) ^ j ≤ (x : Int)) := by rw [e]; generalize 2 ^ j = z at *; omega
      clear e hxq
      go_wp2_with fail
      go_quiet ((go_at_call 13; exact quiet_left' (HS.out _)))
      go_wp2
      go_ret2
      exact ⟨ret2_int HV.out, below_dr HBL.out _⟩

theorem rvalue_big (m x : Nat) (w : World) (h : m < 30) (_hx : x < 4294967296) (hxq : ¬ x < 2 ^ bitsC m) :
    Calls Try.prog 10 #[agC m (bitsC m : Nat) x] w fun e w' => e = .returned (.tuple #[.int .i64 0, .bool false]) ∧ Below w.heap.size w w' := by
  unfold agC
  have HB := Lib.hid (fun W => bits12_any m W h)
  have HS := Lib.hid (fun W => base12_any m W h)
  have hb13 := bitsC_le m h
  have htop := baseC_top m h
  obtain ⟨q, hq⟩ : ∃ q, bitsC m = q := ⟨_, rfl⟩
  rw [hq] at HB hb13 htop hxq ⊢
  obtain ⟨y, hy⟩ : ∃ y, baseC m = y := ⟨_, rfl⟩
  rw [hy] at HS htop
  clear hq hy
  have hn0 : ¬ ((m : Int) < 0) := by omega
  have hn1 : ¬ ((29 : Int) < (m : Int)) := by omega
  go_enter Try.func10, Try.ntmps10
  go_wp2_with fail
  go_quiet ((go_at_call 14; exact quiet_left' (HB.out _)))
  have HR := Lib.hid (new_drewN w #[.int .i64 m, .int .i64 q, .int .u32 x] 32 nq)
  have HBL := Lib.hid (below_drewN w (.cells #[.int .i64 m, .int .i64 q, .int .u32 x] 32) nq)
  obtain ⟨q0, q1, q2⟩ := row3_cells HR.out
  generalize (w.alloc (.cells #[.int .i64 m, .int .i64 q, .int .u32 x] 32)).drewN nq = w1 at *
  go_wp2
  go_loopg [4, 5] q (fun gk s v wr => ∃ j : Nat, j + gk = q ∧ v = .int .i64 (j : Int) ∧ s = .int .u32 ((2 : Int) ^ j) ∧ wr = w1)
  case atStart => exact ⟨0, by omega, rfl, rfl, rfl⟩
  case round =>
    obtain ⟨j, hj, rfl, rfl, rfl⟩ := hrel
    by_cases hjq : j < q
    · have HP : Hid (IntKind.u32.wrap ((2 : Int) ^ j * 2) = 2 ^ (j + 1)) := by
        have hp : 2 ^ (j + 1) ≤ 2 ^ 13 := Nat.pow_le_pow_right (by omega) (by omega)
        have hp0 : 0 < 2 ^ (j + 1) := Nat.pow_pos (by omega)
        have e : (2 : Int) ^ (j + 1) = ((2 ^ (j + 1) : Nat) : Int) := by rw [Int.natCast_pow]; rfl
        show _ = _
        rw [← Int.pow_succ, e]
        generalize 2 ^ (j + 1) = z at *
        rw [IntKind.wrap_u32]
        omega
      go_wp2
      go_roundg (q - 1 - j)
      case measure => omega
      case rel => exact ⟨j + 1, by omega, rfl, by rw [← HP.out, IntKind.wrap_u32], rfl⟩
    · obtain rfl : j = q := by omega
      have e : (2 : Int) ^ j = ((2 ^ j : Nat) : Int) := by rw [Int.natCast_pow]; rfl
      have hd : (2 : Int) ^ j ≤ (x : Int) := by rw [e]; generalize 2 ^ j = z at *; omega
      clear e hxq
      go_wp2
      go_ret2
      exact ⟨rfl, HBL.out⟩
end Go.Proofs.Ytgokhpljmoojnaa
