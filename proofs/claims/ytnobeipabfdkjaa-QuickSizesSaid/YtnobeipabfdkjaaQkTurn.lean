/- Layer 34: bits turned round. -/
import Derived.Test.YtnobeipabfdkjaaQkPl
import Derived.Test.YtnobeipabfdkjaaQuietF
import Derived.Test.YtnobeipabfdkjaaFoot
import Derived.Test.YtnobeipabfdkjaaCrPl
import Derived.Laws.BitsAllLaws
import Derived.Deep.Cut
import Derived.Deep.DeepCutAuto
import Derived.IntWalk
import Derived.Outline
import Derived.Lib.Hide
namespace Go.Proofs.Ytnobeipabfdkjaa
open Go.RowKit

open BitsP

theorem bitsOf_mod (x k : Nat) : bitsOf (x % p2 k) k = bitsOf x k := by
  apply num_inj (by rw [bitsOf_length, bitsOf_length])
  rw [num_bitsOf, num_bitsOf, Nat.mod_mod]
/-- The lowest k bits of a number, turned round. -/
def turnN (x k : Nat) : Nat := num (codeB x k)
theorem turnN_lt (x k : Nat) : turnN x k < 2 ^ k := by
  have h := num_lt (codeB x k)
  rw [codeB_len, p2_pow] at h
  exact h
theorem turn16 (x : Nat) : turnN x 16 = turnN (x / 256) 8 + 256 * turnN (x % 256) 8 := by
  have e : bitsOf x 16 = bitsOf x 8 ++ bitsOf (x / p2 8) 8 := bitsOf_add x 8 8
  have e8 : p2 8 = 256 := by decide
  have hm : bitsOf (x % 256) 8 = bitsOf x 8 := by rw [← e8]; exact bitsOf_mod x 8
  unfold turnN codeB
  rw [e, List.reverse_append, num_append, List.length_reverse, bitsOf_length, hm, e8]
theorem or256 (a b : Nat) (hb : b < 256) : b ||| a * 256 = b + 256 * a := by
  have := Nat.two_pow_add_eq_or_of_lt (i := 8) (b := b) hb a
  rw [show (2 : Nat) ^ 8 = 256 by decide] at this
  rw [Nat.or_comm, Nat.mul_comm a, ← this]
  omega
theorem tab_val (S : ByteArray) (hk : (List.range 256).all (fun i => decide (S.data.toList[i]? = some (UInt8.ofNat (turnN i 8)))) = true) (i : Nat) (hi : i < 256) (h : i < S.size) : (S[i]'h).toNat = turnN i 8 := by
  have h1 := List.all_eq_true.1 hk i (List.mem_range.2 hi)
  rw [decide_eq_true_eq] at h1
  have h2 : S.data.toList[i]? = some (S[i]'h) := by
    rw [Array.getElem?_toList]
    exact Array.getElem?_eq_getElem h
  rw [h2] at h1
  injection h1 with h1
  have h3 := turnN_lt i 8
  rw [h1, UInt8.toNat_ofNat']
  exact Nat.mod_eq_of_lt (by omega)
set_option maxRecDepth 100000 in
set_option maxHeartbeats 400000 in
theorem rev16_any (x : Nat) (w : World) (hx : x < 65536) :
    Calls Try.prog 26 #[.int .u16 (x : Int)] w fun e w' => e = .returned (.int .u16 (turnN x 16 : Nat)) ∧ ∃ m, w' = w.drewN m := by
  have h1 : bits .and .u16 (x : Int) 255 = ((x % 256 : Nat) : Int) := by
    rw [show (255 : Int) = ((255 : Nat) : Int) from rfl, u16_and_nat _ _ hx (by decide), show (255 : Nat) = 2 ^ 8 - 1 by decide, Nat.and_two_pow_sub_one_eq_mod]
  have HT := Lib.hid (turn16 x)
  obtain ⟨lo, hlo⟩ : ∃ lo, x % 256 = lo := ⟨_, rfl⟩
  obtain ⟨hi, hhi⟩ : ∃ hi, x / 256 = hi := ⟨_, rfl⟩
  have h2 : (x : Int) / 256 = (hi : Int) := by omega
  rw [hlo] at h1 HT
  rw [hhi] at HT
  have hl8 : lo < 256 := by omega
  have hh8 : hi < 256 := by omega
  have hl9 : (lo : Int) < 256 := by omega
  have hh9 : (hi : Int) < 256 := by omega
  clear hlo hhi hx
  go_enter Try.func26, Try.ntmps26
  go_upto_region 1 with (fail)
  go_region
  go_wp2
  go_ret
  refine ⟨?_, 1, rfl⟩
  rw [HT.out]
  refine congrArg Ending.returned (show Value.int .u16 _ = Value.int .u16 _ from congrArg _ ?_)
  rw [tab_val (i := hi) (hi := hh8), tab_val (i := lo) (hi := hl8)]
  case hk => kernel_rfl
  case hk => kernel_rfl
  have ha := turnN_lt hi 8
  have hb := turnN_lt lo 8
  obtain ⟨a, ha'⟩ : ∃ a, turnN hi 8 = a := ⟨_, rfl⟩
  obtain ⟨b, hb'⟩ : ∃ b, turnN lo 8 = b := ⟨_, rfl⟩
  rw [ha'] at ha ⊢
  rw [hb'] at hb ⊢
  rw [IntWalk.u16_in (a : Int) (by omega), IntWalk.u16_in (b : Int) (by omega), IntWalk.u16_in ((b : Int) * 256) (by omega)]
  have e : (b : Int) * 256 = ((b * 256 : Nat) : Int) := by simp
  rw [e, u16_or_nat _ _ (by omega) (by omega), or256 b a (by omega)]
theorem turn_cut (x : Nat) {b : Nat} (hb : b ≤ 16) : turnN x 16 / 2 ^ (16 - b) = turnN x b := by
  unfold turnN
  rw [← p2_pow, ← num_drop]
  congr 1
  unfold codeB
  have e : bitsOf x 16 = bitsOf x b ++ bitsOf (x / p2 b) (16 - b) := by
    have := bitsOf_add x b (16 - b)
    rwa [show b + (16 - b) = 16 by omega] at this
  rw [e, List.reverse_append, List.drop_left' (by rw [List.length_reverse, bitsOf_length])]
/-- A width as it counts for Turn. -/
def clampW (k : Int) : Nat := (min (max k 0) 15).toNat
set_option maxHeartbeats 400000 in
theorem qturn_any (n k : Int) (w : World) (hk : -9223372036854775808 ≤ k ∧ k ≤ 9223372036854775807) :
    Calls Try.prog 8 #[.int .i64 n, .int .i64 k] w fun e w' => e = .returned (.int .i64 (turnN (n % 65536).toNat (clampW k) : Nat)) ∧ ∃ m, w' = w.drewN m := by
  obtain ⟨x, hx⟩ : ∃ x : Nat, (n % 65536).toNat = x := ⟨_, rfl⟩
  have hx2 : IntKind.u16.wrap n = (x : Int) := by rw [IntKind.wrap_u16]; omega
  have hx6 : x < 65536 := by omega
  obtain ⟨b, hb⟩ : ∃ b, clampW k = b := ⟨_, rfl⟩
  have hb15 : b ≤ 15 := by unfold clampW at hb; omega
  have hmm : min (max k 0) 15 = (b : Int) := by unfold clampW at hb; omega
  have HC := Lib.hid (turn_cut x (b := b) (by omega))
  have hlt := turnN_lt x 16
  rw [hx, hb]
  have HR := Lib.hid (rev16_any x w hx6)
  obtain ⟨d, hd⟩ : ∃ d, 16 - b = d := ⟨_, rfl⟩
  have hsub : IntKind.i64.wrap (16 - (b : Int)) = (d : Int) := by rw [IntWalk.i64_in _ (by omega)]; omega
  rw [hd] at HC
  obtain ⟨X, hX⟩ : ∃ X, turnN x 16 = X := ⟨_, rfl⟩
  obtain ⟨Y, hY⟩ : ∃ Y, turnN x b = Y := ⟨_, rfl⟩
  rw [hX] at HC HR hlt
  rw [hY] at HC ⊢
  have hsh : (X : Int) / 2 ^ d = (Y : Int) := by rw [← HC.out]; simp
  have hYX : Y ≤ X := by rw [← HC.out]; exact Nat.div_le_self _ _
  clear hx hX hY
  rcases (show (k < 0 ∧ d = 16) ∨ (15 < k ∧ d = 1) ∨ ((b : Int) = k ∧ b ≤ 15) by omega) with ⟨h1, rfl⟩ | ⟨h1, rfl⟩ | ⟨h1, h2⟩
  · have hs2 : (X : Int) / 65536 = (Y : Int) := hsh
    clear hb hmm hd hsub hsh HC hb15
    go_enter Try.func8, Try.ntmps8
    go_wp2_with (go_at_call 26; refine HR.out.mono ?_; rintro e w' ⟨rfl, m, rfl⟩)
    go_ret
    exact ⟨rfl, m, rfl⟩
  · have hs2 : (X : Int) / 2 = (Y : Int) := hsh
    clear hb hmm hd hsub hsh HC hb15
    go_enter Try.func8, Try.ntmps8
    go_wp2_with (go_at_call 26; refine HR.out.mono ?_; rintro e w' ⟨rfl, m, rfl⟩)
    go_ret
    exact ⟨rfl, m, rfl⟩
  · subst h1
    clear hb hmm HC hb15 hk
    have hd16 : d ≤ 16 := by omega
    have hd1 : 1 ≤ d := by omega
    clear hd
    go_enter Try.func8, Try.ntmps8
    go_wp2_with (go_at_call 26; refine HR.out.mono ?_; rintro e w' ⟨rfl, m, rfl⟩)
    go_ret
    exact ⟨rfl, m, rfl⟩
end Go.Proofs.Ytnobeipabfdkjaa
