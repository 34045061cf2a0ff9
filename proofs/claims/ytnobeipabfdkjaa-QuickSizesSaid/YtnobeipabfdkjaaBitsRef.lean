/- The contracts of the reference's Row, Fill and Pack of layer 3. -/
import Derived.Test.YtnobeipabfdkjaaBitsWr
namespace Go.Proofs.Ytnobeipabfdkjaa
open Go.RowKit BitsP

theorem div_p2 (n k : Nat) : n / p2 k / 2 = n / p2 (k + 1) := by rw [p2, Nat.mul_comm, Nat.div_div_eq_div_mul]
theorem bit_cell (x : Nat) : Value.int .u8 ((x : Int) % 2) = Value.int .u8 (((if decide (x % 2 = 1) then (1 : UInt8) else 0).toNat : Nat) : Int) := by
  rw [← bit_byte]
  congr 1
  simp
  omega
theorem bitBytes_snoc (L : List Bool) (b : Bool) : byteCells (bitBytes (L ++ [b])) = byteCells (bitBytes L) ++ [Value.int .u8 (((if b then (1 : UInt8) else 0).toNat : Nat) : Int)] := by
  rw [bitBytes_append, byteCells_append]
  rfl

set_option maxRecDepth 100000 in
set_option maxHeartbeats 400000 in
theorem refRow_any (n b : Int) (w : World) (n0 : 0 ≤ n) (n1 : n < 4294967296) (b0 : -9223372036854775808 ≤ b) (b1 : b ≤ 9223372036854775807) :
    Calls Try.prog 34 #[.int .u32 n, .int .i64 b] w fun e w' => ∃ A c, e = .returned (.slice A (cnt b) c) ∧ OwnB w' w.heap.size 5 (.slice A (cnt b) c) (cnt b) (bitBytes (bitsOf n.toNat (cnt b))) ∧ Below w.heap.size w w' := by
  obtain ⟨m, rfl⟩ := Int.eq_ofNat_of_zero_le n0
  rw [Int.toNat_natCast]
  have HCNT := Lib.hid (fun W => width3_any b W b0 b1)
  have hc := cnt_le b
  clear b0 b1
  generalize cnt b = q at *
  go_enter Try.func34, Try.ntmps34
  go_wp2
  go_loopg [0, 5, 6] q (fun gk nk vk i wr => ∃ k : Nat, k + gk = q ∧ i = .int .i64 k ∧ nk = .int .u32 (m / p2 k : Nat) ∧ OwnB wr w.heap.size 5 vk k (bitBytes (bitsOf m k)) ∧ Below w.heap.size w wr)
  case atStart => exact ⟨0, by omega, rfl, by simp [p2], World.ownsRow_nil _ _ _ _, Below.refl _ _⟩
  case round =>
    obtain ⟨k, hk, rfl, rfl, hown, hbel⟩ := hrel
    have HOWN := Lib.hid hown
    have HBEL := Lib.hid hbel
    clear hown hbel
    have hle : m / p2 k ≤ m := Nat.div_le_self _ _
    have HS : Hid (bitsOf m (k + 1) = bitsOf m k ++ [decide (m / p2 k % 2 = 1)]) := bitsOf_snoc m k
    have HD := Lib.hid (div_p2 m k)
    generalize m / p2 k = x at *
    obtain ⟨A, c, rfl⟩ := own_form HOWN.out
    by_cases hkq : k < q
    · go_wp2_with (first | (go_at_call 44; refine (HCNT.out _).mono ?_; rintro e w' ⟨rfl, rfl⟩) | (at_builtin; refine wpList_app1 _ byteElem3 rfl (.tmp 13) (.tmp 17) rfl w.heap.size (.slice A k c) k _ rfl HOWN.out _ rfl rfl (by simp [Value.oneCell']) (by unfold maxLen; omega) (by omega) HBEL.out.size ?_; intro A' c' w2 hA; have HA := Lib.hid hA; clear hA))
      go_roundg (gk - 1)
      case measure => omega
      case rel =>
        refine ⟨k + 1, by omega, by go_num, by rw [← HD.out]; go_num, ?_, HA.out.below HBEL.out HBEL.out.size (own_base HOWN.out)⟩
        have := HA.out.own
        rw [HS.out]
        unfold OwnB
        rw [bitBytes_snoc, ← bit_cell]
        exact this
    · obtain rfl : k = q := by omega
      go_wp2_with (go_at_call 44; refine (HCNT.out _).mono ?_; rintro e w' ⟨rfl, rfl⟩)
      go_ret
      exact ⟨A, c, rfl, HOWN.out, HBEL.out⟩

theorem lack_step {n : Nat} (h : n % 8 ≠ 0) : lack n = lack (n + 1) + 1 := by unfold lack; omega
theorem lack_zero {n : Nat} (h : n % 8 = 0) : lack n = 0 := by unfold lack; omega
theorem zeros_succ (L : List Bool) (k : Nat) : L ++ zeros (k + 1) = (L ++ [false]) ++ zeros k := by rw [List.append_assoc]; rfl

theorem take_succ' {L : List Bool} {i : Nat} {b : Bool} (h : L[i]? = some b) : L.take (i + 1) = L.take i ++ [b] := by rw [List.take_add_one, h]; rfl
theorem num_snoc (R : List Bool) (b : Bool) : num (R ++ [b]) = num R + p2 R.length * bit b := by rw [num_append]; simp [num]

/-- What the reference has put out behind i bits. -/
def outs (L : List Bool) (i : Nat) (whole : List UInt8) (R : List Bool) : List UInt8 := if i = L.length then pk whole R else whole

theorem unpack_snoc {whole : List UInt8} {R : List Bool} {b : Bool} {T : List Bool} (h : T = unpack whole ++ R) (h8 : R.length = 7) : T ++ [b] = unpack (whole ++ [UInt8.ofNat (num (R ++ [b]))]) ++ [] := by
  rw [unpack_append, unpack_one (by rw [List.length_append, h8]; rfl), h, List.append_nil, List.append_assoc]

theorem out_byte {r pr : Nat} (h : r + pr < 256) : Value.int .u8 ((r : Int) + (pr : Int)) = Value.int .u8 (((UInt8.ofNat (r + pr)).toNat : Nat) : Int) := by
  congr 1
  simp [UInt8.toNat_ofNat']
  omega

end Go.Proofs.Ytnobeipabfdkjaa
