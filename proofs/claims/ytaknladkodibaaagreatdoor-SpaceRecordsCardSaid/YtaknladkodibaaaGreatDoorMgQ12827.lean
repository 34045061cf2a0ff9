/- Layer 12: a number's class, the least number of a class, the number of a class and bits. -/
import Derived.Test.YtaknladkodibaaaGreatDoorRows
import Derived.Test.YtaknladkodibaaaGreatDoorMgQ12808
import Derived.Test.YtaknladkodibaaaGreatDoorMgQ12800
import Derived.Test.YtaknladkodibaaaGreatDoorSymLen
import Derived.WalkKit
import Derived.WalkSpells
import Derived.WalkLawsBesides
import Derived.Lib.Hide
import Derived.Deep.RegionHeld3
import Derived.Deep.DrawnRows
import Derived.Deep.LoopGhost
import Derived.StillTailTactics
import Derived.Deep.RegionLaw
import Derived.Deep.WholeRow
namespace Go.Proofs.YtaknladkodibaaaGreatDoor
open Go.RowKit SymP
attribute [local go_sem ↓] Go.wp_at_zero Go.wp_at_succ

theorem bitLenAux_zero (f : Nat) : Lib.bitLenAux f 0 = 0 := by cases f <;> simp [Lib.bitLenAux]
theorem bitLenAux_of : ∀ (k f x : Nat), k ≤ f → x < 2 ^ k → 2 ^ k ≤ 2 * x → Lib.bitLenAux f x = k
  | 0, f, x, _, h1, h2 => by rw [Nat.pow_zero] at h1 h2; omega
  | k + 1, 0, x, h, _, _ => by omega
  | k + 1, f + 1, x, h, h1, h2 => by
    rw [Nat.pow_succ] at h1 h2
    have hx : x ≠ 0 := by
      have : 0 < 2 ^ k := Nat.pow_pos (by omega)
      omega
    rw [Lib.bitLenAux, if_neg hx]
    cases k with
    | zero =>
      have e : x / 2 = 0 := by omega
      rw [e]
      rw [bitLenAux_zero]
    | succ k =>
      have := bitLenAux_of (k + 1) f (x / 2) (by omega) (by omega) (by rw [Nat.pow_succ] at h1 h2 ⊢; omega)
      omega
theorem bitLen_lenC (v : Nat) (h : v < 32768) : Lib.bitLen v = lenC v := by
  unfold Lib.bitLen lenC
  by_cases h0 : v < 2
  · rw [if_pos h0]
    have e : v = 0 ∨ v = 1 := by omega
    rcases e with rfl | rfl
    · exact bitLenAux_zero 64
    · exact bitLenAux_of 1 64 1 (by omega) (by omega) (by omega)
  rw [if_neg h0]
  have c : ∀ k : Nat, k ≤ 64 → v < 2 ^ k → 2 ^ k ≤ 2 * v → Lib.bitLenAux 64 v = k := fun k a b d => bitLenAux_of k 64 v a b d
  generalize Lib.bitLenAux 64 v = q at *
  by_cases h1 : v < 4; · rw [if_pos h1]; exact c 2 (by omega) (by omega) (by omega)
  by_cases h2 : v < 8; · rw [if_neg h1, if_pos h2]; exact c 3 (by omega) (by omega) (by omega)
  by_cases h3 : v < 16; · rw [if_neg h1, if_neg h2, if_pos h3]; exact c 4 (by omega) (by omega) (by omega)
  rw [if_neg h1, if_neg h2, if_neg h3]
  by_cases h4 : v < 32; · rw [if_pos h4]; exact c 5 (by omega) (by omega) (by omega)
  by_cases h5 : v < 64; · rw [if_neg h4, if_pos h5]; exact c 6 (by omega) (by omega) (by omega)
  by_cases h6 : v < 128; · rw [if_neg h4, if_neg h5, if_pos h6]; exact c 7 (by omega) (by omega) (by omega)
  rw [if_neg h4, if_neg h5, if_neg h6]
  by_cases h7 : v < 256; · rw [if_pos h7]; exact c 8 (by omega) (by omega) (by omega)
  by_cases h8 : v < 512; · rw [if_neg h7, if_pos h8]; exact c 9 (by omega) (by omega) (by omega)
  by_cases h9 : v < 1024; · rw [if_neg h7, if_neg h8, if_pos h9]; exact c 10 (by omega) (by omega) (by omega)
  rw [if_neg h7, if_neg h8, if_neg h9]
  by_cases ha : v < 2048; · rw [if_pos ha]; exact c 11 (by omega) (by omega) (by omega)
  by_cases hb : v < 4096; · rw [if_neg ha, if_pos hb]; exact c 12 (by omega) (by omega) (by omega)
  by_cases hc : v < 8192; · rw [if_neg ha, if_neg hb, if_pos hc]; exact c 13 (by omega) (by omega) (by omega)
  rw [if_neg ha, if_neg hb, if_neg hc]
  by_cases hd : v < 16384; · rw [if_pos hd]; exact c 14 (by omega) (by omega) (by omega)
  rw [if_neg hd]
  exact c 15 (by omega) (by omega) (by omega)

theorem len12_any (v : Nat) (w : World) (h : v < 32768) :
    Calls Tryz.prog 196 #[.int .u64 v] w fun e w' => e = .returned (.int .i64 (lenC v : Nat)) ∧ w = w' := by
  refine (bits_Len v w (by omega) (by omega)).mono ?_
  rintro e w' ⟨rfl, rfl⟩
  rw [Int.toNat_natCast, bitLen_lenC v h]
  exact ⟨rfl, rfl⟩

/-- A class as a value. -/
def agC (n b x : Int) : Value := .agg #[.int .i64 n, .int .i64 b, .int .u32 x]

theorem len_of {v k : Nat} (k1 : 1 ≤ k) (k2 : k ≤ 13) (l1 : 2 * 2 ^ k ≤ v) (l2 : v < 4 * 2 ^ k) : lenC v = k + 2 := by
  have hk : k = 1 ∨ k = 2 ∨ k = 3 ∨ k = 4 ∨ k = 5 ∨ k = 6 ∨ k = 7 ∨ k = 8 ∨ k = 9 ∨ k = 10 ∨ k = 11 ∨ k = 12 ∨ k = 13 := by omega
  rcases hk with rfl | rfl | rfl | rfl | rfl | rfl | rfl | rfl | rfl | rfl | rfl | rfl | rfl <;>
    (simp only [lenC]; repeat (first | rw [if_neg (by omega)] | rw [if_pos (by omega)]))
theorem len_ex {v : Nat} (h4 : 4 ≤ v) (h : v < 32768) : ∃ k, 1 ≤ k ∧ k ≤ 13 ∧ 2 * 2 ^ k ≤ v ∧ v < 4 * 2 ^ k := by
  by_cases b1 : v < 8; exact ⟨1, by omega, by omega, by omega, by omega⟩
  by_cases b1 : v < 16; exact ⟨2, by omega, by omega, by omega, by omega⟩
  by_cases b1 : v < 32; exact ⟨3, by omega, by omega, by omega, by omega⟩
  by_cases b1 : v < 64; exact ⟨4, by omega, by omega, by omega, by omega⟩
  by_cases b1 : v < 128; exact ⟨5, by omega, by omega, by omega, by omega⟩
  by_cases b1 : v < 256; exact ⟨6, by omega, by omega, by omega, by omega⟩
  by_cases b1 : v < 512; exact ⟨7, by omega, by omega, by omega, by omega⟩
  by_cases b1 : v < 1024; exact ⟨8, by omega, by omega, by omega, by omega⟩
  by_cases b1 : v < 2048; exact ⟨9, by omega, by omega, by omega, by omega⟩
  by_cases b1 : v < 4096; exact ⟨10, by omega, by omega, by omega, by omega⟩
  by_cases b1 : v < 8192; exact ⟨11, by omega, by omega, by omega, by omega⟩
  by_cases b1 : v < 16384; exact ⟨12, by omega, by omega, by omega, by omega⟩
  exact ⟨13, by omega, by omega, by omega, by omega⟩

theorem ofInt_64 (a : Nat) (ha : a < 18446744073709551616) : (BitVec.ofInt 64 (a : Int)).toNat = a := by
  rw [BitVec.ofInt_natCast, BitVec.toNat_ofNat]; exact Nat.mod_eq_of_lt (by omega)
theorem i64_and_nat (a b : Nat) (ha : a < 9223372036854775808) (hb : b < 9223372036854775808) : bits .and .i64 (a : Int) (b : Int) = ((a &&& b : Nat) : Int) := by
  have hx : a &&& b < 2 ^ 63 := Nat.and_lt_two_pow _ (by omega)
  show IntKind.i64.wrap ((BitVec.ofInt 64 (a : Int) &&& BitVec.ofInt 64 (b : Int)).toNat : Int) = _
  rw [BitVec.toNat_and, ofInt_64 a (by omega), ofInt_64 b (by omega)]
  exact IntWalk.i64_in _ (by omega)

set_option maxRecDepth 100000 in
set_option maxHeartbeats 1000000 in
theorem of_inx (v : Nat) (w : World) (h : v < 32768) :
    Calls Tryz.prog 154 #[.int .i64 v] w fun e w' => e = .returned (.tuple #[agC (classC v : Nat) (bitsC (classC v) : Nat) (v % 2 ^ bitsC (classC v) : Nat), .bool true]) ∧ (w.alloc (.cells #[.int .i64 (classC v : Nat), .int .i64 (bitsC (classC v) : Nat), .int .u32 (v % 2 ^ bitsC (classC v) : Nat)] 166) = w' ∨ (w.alloc (.cells #[.int .i64 (classC v : Nat), .int .i64 (bitsC (classC v) : Nat), .int .u32 (v % 2 ^ bitsC (classC v) : Nat)] 166)).drew = w') := by
  by_cases h4 : v < 4
  · have e1 : classC v = v := by unfold classC; rw [if_pos h4]
    have e2 : bitsC v = 0 := by unfold bitsC; rw [if_pos h4]
    rw [e1, e2, Nat.pow_zero, Nat.mod_one]
    clear e1 e2
    go_enter Tryz.func154, Tryz.ntmps154
    go_wp2
    refine bodyPost_ret (v := .tuple #[agC v 0 0, .bool true]) ?_ rfl ⟨rfl, .inl rfl⟩
    rw [results_cell_tmp rfl]
    go_simp
    rfl
  · obtain ⟨k, k1, k2, l1, l2⟩ := len_ex (v := v) (by omega) h
    have hl := len_of k1 k2 l1 l2
    have hp0 : 0 < 2 ^ k := Nat.pow_pos (by omega)
    have a2 : v / 2 ^ k < 4 := (Nat.div_lt_iff_lt_mul hp0).2 l2
    have a1 : 2 ≤ v / 2 ^ k := (Nat.le_div_iff_mul_le hp0).2 l1
    have hc : classC v = 2 * k + v / 2 ^ k := by
      unfold classC
      rw [if_neg h4, hl, Nat.add_sub_cancel]
    have hb : bitsC (classC v) = k := by
      rw [hc]
      unfold bitsC
      rw [if_neg (by omega)]
      omega
    rw [hb, hc]
    clear hb hc
    obtain ⟨c, hcc⟩ : ∃ c, 2 * k + v / 2 ^ k = c := ⟨_, rfl⟩
    obtain ⟨x, hx⟩ : ∃ x, v % 2 ^ k = x := ⟨_, rfl⟩
    rw [hcc, hx]
    go_enter Tryz.func154, Tryz.ntmps154
    go_wp2_with (go_at_call 196; refine (len12_any v _ h).mono ?_; rintro e w' ⟨rfl, rfl⟩; rw [hl])
    go_still_tail 14, (by kernel_rfl)
    repeat still_step
    have hp : 2 ^ k ≤ 2 ^ 13 := Nat.pow_le_pow_right (by omega) k2
    have cp : ((2 : Int) ^ k) = ((2 ^ k : Nat) : Int) := by rw [Int.natCast_pow]; rfl
    have cd : (v : Int) / ((2 ^ k : Nat) : Int) = ((v / 2 ^ k : Nat) : Int) := by rw [Int.natCast_ediv]
    have e1 : IntKind.i64.wrap (2 * (k : Int)) = ((2 * k : Nat) : Int) := by rw [show 2 * (k : Int) = ((2 * k : Nat) : Int) by omega]; exact IntWalk.i64_in _ (by omega)
    have e2 : IntKind.i64.wrap (((2 * k : Nat) : Int) + ((v / 2 ^ k : Nat) : Int)) = ((2 * k + v / 2 ^ k : Nat) : Int) := by rw [← Int.natCast_add]; exact IntWalk.i64_in _ (by omega)
    have e3 : IntKind.i64.wrap ((2 ^ k : Nat) : Int) = ((2 ^ k : Nat) : Int) := IntWalk.i64_in _ (by omega)
    have e4 : IntKind.i64.wrap (((2 ^ k : Nat) : Int) - 1) = ((2 ^ k - 1 : Nat) : Int) := by rw [show (((2 ^ k : Nat) : Int) - 1) = ((2 ^ k - 1 : Nat) : Int) by omega]; exact IntWalk.i64_in _ (by omega)
    have e5 : bits .and .i64 (v : Int) ((2 ^ k - 1 : Nat) : Int) = ((v % 2 ^ k : Nat) : Int) := by rw [i64_and_nat _ _ (by omega) (by omega), Nat.and_two_pow_sub_one_eq_mod]
    have hm : v % 2 ^ k < 2 ^ k := Nat.mod_lt _ hp0
    have e6 : IntKind.u32.wrap ((v % 2 ^ k : Nat) : Int) = ((v % 2 ^ k : Nat) : Int) := by rw [IntKind.wrap_u32]; omega
    rw [cp, cd, e1, e2, e3, e4, e5, e6, hcc, hx]
    clear hm a1 a2 e1 e2 e3 e4 e5 e6 cp cd hp hp0 l1 l2 hl
    change wpList _ _ _ _ _ (World.drew _)
    go_wp2
    refine bodyPost_ret (v := .tuple #[agC c k x, .bool true]) ?_ rfl ⟨rfl, .inr ?_⟩
    · rw [results_cell_tmp rfl]
      go_simp
      rfl
    · rfl

end Go.Proofs.YtaknladkodibaaaGreatDoor
/- Layer 12: the number of a class and bits. -/
namespace Go.Proofs.YtaknladkodibaaaGreatDoor
open Go.RowKit SymP
attribute [local go_sem ↓] Go.wp_at_zero Go.wp_at_succ

end Go.Proofs.YtaknladkodibaaaGreatDoor
