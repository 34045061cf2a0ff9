/- The reference's numbers as bytes. -/
import Derived.Test.YthnoobhjkhafcaaDoorKField
namespace Go.Proofs.YthnoobhjkhafcaaDoor
open Go.RowKit FieldP

set_option maxHeartbeats 400000 in
theorem width_any (b : Int) (w : World) (h0 : -9223372036854775808 ≤ b) (h1 : b ≤ 9223372036854775807) :
    Calls Tryd.prog 47 #[.int .i64 b] w fun e w' => e = .returned (.int .i64 (cnt b : Nat)) ∧ w = w' := by
  by_cases c1 : b < 1
  · have HC : Hid ((cnt b : Int) = 1) := by show (cnt b : Int) = 1; unfold cnt; rw [if_pos c1]; rfl
    go_enter Tryd.func47, Tryd.ntmps47
    go_wp2
    go_ret
    exact ⟨ret_int HC.out.symm, rfl⟩
  · by_cases c4 : 4 < b
    · have HC : Hid ((cnt b : Int) = 4) := by show (cnt b : Int) = 4; unfold cnt; rw [if_neg c1, if_pos c4]; rfl
      go_enter Tryd.func47, Tryd.ntmps47
      go_wp2
      go_ret
      exact ⟨ret_int HC.out.symm, rfl⟩
    · have HC : Hid ((cnt b : Int) = b) := cnt_of (by omega) (by omega)
      go_enter Tryd.func47, Tryd.ntmps47
      go_wp2
      go_ret
      exact ⟨ret_int HC.out.symm, rfl⟩
set_option maxRecDepth 100000 in
set_option maxHeartbeats 400000 in
theorem refPut_any (n b : Int) (w : World) (n0 : 0 ≤ n) (n1 : n < 4294967296) (b0 : -9223372036854775808 ≤ b) (b1 : b ≤ 9223372036854775807) :
    Calls Tryd.prog 32 #[.int .u32 n, .int .i64 b] w fun e w' => ∃ A c, e = .returned (.slice A (cnt b) c) ∧ OwnB w' w.heap.size 5 (.slice A (cnt b) c) (cnt b) (putN n.toNat (cnt b)) ∧ Below w.heap.size w w' := by
  obtain ⟨m, rfl⟩ := Int.eq_ofNat_of_zero_le n0
  rw [Int.toNat_natCast]
  have HCNT := Lib.hid (fun W => width_any b W b0 b1)
  have hc4 := cnt_le b
  have hc1 := cnt_pos b
  clear b0 b1
  generalize cnt b = q at *
  go_enter Tryd.func32, Tryd.ntmps32
  go_wp2
  go_loopw [0, 5, 6] (fun nk vk i wr => ∃ k : Nat, k + 1 ≤ q ∧ i = .int .i64 (k + 1 : Nat) ∧ nk = .int .u32 (sh m k : Nat) ∧ OwnB wr w.heap.size 5 vk (k + 1) (putN m (k + 1)) ∧ Below w.heap.size w wr) (fun _ _ i _ => q - (intOf i).toNat)
  case atStart =>
    refine ⟨0, by omega, rfl, rfl, ?_, (Below.refl _ _).alloc (Nat.le_refl _) _⟩
    have h := World.ownsRow_lit (base := w.heap.size) (e := 5) (size := 1) w #[.int .u8 ((m : Int) % 256)] 1 (Nat.le_refl _) (by unfold maxLen; omega) rfl
    rw [putN_one]
    simpa [OwnB, byteCells, byte_cell] using h
  case round =>
    obtain ⟨k, hk, rfl, rfl, hown, hbel⟩ := hrel
    have HOWN := Lib.hid hown
    have HBEL := Lib.hid hbel
    clear hown hbel
    have hsl := sh_le m k
    have HS : Hid (sh m (k + 1) = sh m k / 256) := rfl
    have HP : Hid (putN m (k + 2) = putN m (k + 1) ++ [UInt8.ofNat (sh m (k + 1))]) := rfl
    have hr : ((k + 1 : Nat) : Int) = (k : Int) + 1 := by omega
    rw [hr]
    clear hr
    by_cases hkq : k + 1 < q
    · have hd : decide ((k : Int) + 1 < (q : Int)) = true := by simp; omega
      obtain ⟨A, c, rfl⟩ := own_form HOWN.out
      go_wp2_with (first | (go_at_call 47; refine (HCNT.out _).mono ?_; rintro e w' ⟨rfl, rfl⟩) | (at_builtin; refine wpList_app1 _ byteElem rfl (.tmp 19) (.tmp 23) rfl w.heap.size (.slice A (k + 1) c) (k + 1) _ rfl HOWN.out _ rfl rfl (by simp [Value.oneCell']) (by unfold maxLen; omega) (by omega) HBEL.out.size ?_; intro A' c' w2 hA; have HA := Lib.hid hA; clear hA))
      refine ⟨⟨k + 1, by omega, by go_num, by rw [HS.out]; go_num, ?_, HA.out.below HBEL.out HBEL.out.size (own_base HOWN.out)⟩, by simp [intOf]; omega⟩
      have := HA.out.own
      rw [HP.out, OwnB, ← byteCells_snoc, HS.out]
      simpa using this
    · obtain rfl : q = k + 1 := by omega
      have hd : decide ((k : Int) + 1 < ((k + 1 : Nat) : Int)) = false := by simp
      obtain ⟨A, c, rfl⟩ := own_form HOWN.out
      go_wp2_with (go_at_call 47; refine (HCNT.out _).mono ?_; rintro e w' ⟨rfl, rfl⟩)
      go_ret
      exact ⟨A, c, rfl, HOWN.out, HBEL.out⟩
end Go.Proofs.YthnoobhjkhafcaaDoor
