/- Layer 8: the reference's bits of a code. -/
import Derived.Test.YtnobeipabfdkjaaCrPl
import Derived.Test.YtnobeipabfdkjaaBitsRef
namespace Go.Proofs.Ytnobeipabfdkjaa
open Go.RowKit BitsP

theorem codeB_succ (v i : Nat) : codeB v (i + 1) = decide (v / p2 i % 2 = 1) :: codeB v i := by
  unfold codeB
  rw [bitsOf_snoc, List.reverse_append]
  rfl
set_option maxHeartbeats 1000000 in
theorem refBits_any (v n : Nat) (w : World) (hv : v < 32768) (hn : n ≤ 15) :
    Calls Try.prog 33 #[.int .i64 (v : Int), .int .i64 (n : Int)] w
      fun e w' => ∃ A c, e = .returned (.slice A n c) ∧ OwnB w' w.heap.size 5 (.slice A n c) n (bitBytes (codeB v n)) ∧ Below w.heap.size w w' := by
  go_enter Try.func33, Try.ntmps33
  go_wp2
  go_loopg [0, 5, 6] n (fun gk nk vk i wr => ∃ k : Nat, k + gk = n ∧ i = .int .i64 k ∧ nk = .int .i64 (v / p2 k : Nat) ∧ OwnB wr w.heap.size 5 vk k (bitBytes (codeB v k)) ∧ Below w.heap.size w wr)
  case atStart => exact ⟨0, by omega, rfl, by simp [p2], World.ownsRow_nil _ _ _ _, Below.refl _ _⟩
  case round =>
    obtain ⟨k, hk, rfl, rfl, hown, hbel⟩ := hrel
    have HOWN := Lib.hid hown
    have HBEL := Lib.hid hbel
    have hsz := hbel.size
    clear hown hbel
    have hle : v / p2 k ≤ v := Nat.div_le_self _ _
    have HS := Lib.hid (codeB_succ v k)
    have HD := Lib.hid (div_p2 v k)
    generalize v / p2 k = x at *
    obtain ⟨A, c, rfl⟩ := own_form HOWN.out
    by_cases hkq : k < n
    · obtain ⟨W1, hW1⟩ : ∃ W1, wr.alloc (.cells #[.int .u8 ((x : Int) % 2)] 5) = W1 := ⟨_, rfl⟩
      have HO1 : Hid (W1.ownsRow w.heap.size 5 1 (.slice (some ⟨wr.heap.size, 0, none⟩) 1 1) 1 [.int .u8 ((x : Int) % 2)]) := by
        show World.ownsRow _ _ _ _ _ _ _
        rw [← hW1]
        exact World.ownsRow_lit wr #[.int .u8 ((x : Int) % 2)] 1 hsz (by unfold maxLen; omega) rfl
      have HB1 : Hid (Below w.heap.size w W1) := by show Below _ _ _; rw [← hW1]; exact HBEL.out.alloc hsz _
      have HC1 : Hid (Cells W1 W1.heap.size A (byteCells (bitBytes (codeB v k)))) := by
        show Cells _ _ _ _
        rw [← hW1]
        exact ((Cells.of_own HOWN.out).alloc (Nat.le_refl _) _).more (by simp)
      have hcl : (byteCells (bitBytes (codeB v k))).length = k * 1 := by rw [byteCells_length, bitBytes_length, codeB_len, Nat.mul_one]
      go_wp2_with (at_builtin; refine wpList_app _ byteElem3 rfl (.tmp 15) (.tmp 16) rfl w.heap.size (.slice (some ⟨wr.heap.size, 0, none⟩) 1 1) 1 _ rfl HO1.out _ _ k c (byteCells (bitBytes (codeB v k))) rfl hcl HC1.out (byteCells_one _) (by unfold maxLen; omega) (by omega) HB1.out.size ?_; intro A' c' w2 hA; have HA := Lib.hid hA; clear hA)
      go_roundg (gk - 1)
      case measure => omega
      case rel =>
        refine ⟨k + 1, by omega, by go_num, by rw [← HD.out]; go_num, ?_, HA.out.below HB1.out HB1.out.size (own_base HO1.out)⟩
        have := HA.out.own
        rw [HS.out]
        unfold OwnB
        rw [Nat.add_comm k 1]
        rw [bit_cell] at this
        exact this
    · obtain rfl : k = n := by omega
      go_wp2
      go_ret
      exact ⟨A, c, rfl, HOWN.out, HBEL.out⟩
end Go.Proofs.Ytnobeipabfdkjaa
