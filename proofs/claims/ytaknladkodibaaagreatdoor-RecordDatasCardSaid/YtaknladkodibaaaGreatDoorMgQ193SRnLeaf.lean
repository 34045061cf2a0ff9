/- Layer 9: what a number tells, and the part at a place. -/
import Derived.Test.YtaknladkodibaaaGreatDoorMgQ19305
import Derived.Test.YtaknladkodibaaaGreatDoorMgQ19316
import Derived.Test.YtaknladkodibaaaGreatDoorMgQ19336
namespace Go.Proofs.YtaknladkodibaaaGreatDoor
open Go.RowKit
theorem span_any (n : Nat) (w : World) : Calls Tryz.prog 191 #[.int .i64 (n : Int)] w fun e w' => e = .returned (.tuple #[.int .i64 ((spanP n).1 : Nat),.int .i64 ((spanP n).2 : Nat)]) ∧ w = w' := by
 by_cases h1 : n = 16
 ·subst h1
  go_enter Tryz.func191,Tryz.ntmps191
  go_wp2
  go_ret2
  exact ⟨rfl,rfl⟩
 by_cases h2 : n = 17
 ·subst h2
  go_enter Tryz.func191,Tryz.ntmps191
  go_wp2
  go_ret2
  exact ⟨rfl,rfl⟩
 by_cases h3 : n = 18
 ·subst h3
  go_enter Tryz.func191,Tryz.ntmps191
  go_wp2
  go_ret2
  exact ⟨rfl,rfl⟩
 have HS : Hid (spanP n = (1,0)) := by show _ = _;unfold spanP;rw [if_neg h1,if_neg h2,if_neg h3]
 have t1 : ((n : Int) == 16) = false := by simp;omega
 have t2 : ((n : Int) == 17) = false := by simp;omega
 have t3 : ((n : Int) == 18) = false := by simp;omega
 rw [HS.out]
 clear h1 h2 h3
 go_enter Tryz.func191,Tryz.ntmps191
 go_wp2
 go_ret2
 exact ⟨rfl,rfl⟩
set_option maxHeartbeats 400000 in
theorem most_any (n : Nat) (w : World) : Calls Tryz.prog 240 #[.int .i64 (n : Int)] w fun e w' => e = .returned (.int .i64 (mostP n : Nat)) ∧ w = w' := by
 have HM := Lib.hid (mostP_span n)
 have hl := spanP_le n
 have HS := Lib.hid (fun W => span_any n W)
 obtain ⟨⟨a,b⟩,hab⟩ : ∃ q,spanP n = q := ⟨_,rfl⟩
 rw [hab] at HM HS hl
 dsimp only at HM HS hl
 obtain ⟨q,hq⟩ : ∃ q,2 ^ b = q := ⟨_,rfl⟩
 rw [hq] at HM
 have hq7 : q ≤ 128 := by rw [← hq];exact Nat.le_trans (Nat.pow_le_pow_right (by omega) hl.2.2) (by decide)
 have hsh : (2 : Int) ^ b = (q : Int) := by rw [← hq];push_cast;rfl
 have h1 := hl.2.1
 have h2 := hl.2.2
 clear hab hq hl
 go_enter Tryz.func240,Tryz.ntmps240
 go_wp2_with (go_at_call 191;refine (HS.out _).mono ?_;rintro e w' ⟨rfl,rfl⟩)
 go_ret
 exact ⟨congrArg Ending.returned (congrArg (Value.int IntKind.i64) (by have := HM.out;omega)),rfl⟩
theorem enough_any (n m : Nat) (w : World) : Calls Tryz.prog 239 #[.int .i64 (n : Int),.int .i64 (m : Int)] w fun e w' => e = .returned (.bool (decide ((spanP m).1 ≤ n))) ∧ w = w' := by
 have HS := Lib.hid (fun W => span_any m W)
 obtain ⟨⟨a,b⟩,hab⟩ : ∃ q,spanP m = q := ⟨_,rfl⟩
 rw [hab] at HS ⊢
 dsimp only at HS ⊢
 clear hab
 go_enter Tryz.func239,Tryz.ntmps239
 go_wp2_with (go_at_call 191;refine (HS.out _).mono ?_;rintro e w' ⟨rfl,rfl⟩)
 go_ret
 exact ⟨by simp,rfl⟩
set_option maxHeartbeats 1000000 in
theorem rightL_any (A : Option Addr) (l c : Nat) (zs : List Int) (B : Nat) (w : World) (hl : zs.length = l) (hm : l ≤ 9223372036854775807) (hb : Cells w B A (zs.map ic)) :
  Calls Tryz.prog 189 #[.slice A l c] w fun e w' => e = .returned (.bool (zs.all lenB)) ∧ w = w' := by
 have HC := Lib.hid hb
 have HL := Lib.hid hl
 clear hb hl
 go_enter Tryz.func189,Tryz.ntmps189
 go_wp2
 go_loopg [7] l (fun gk i wr => ∃ k : Nat,k + gk = l ∧ i = .int .i64 k ∧ wr = w ∧ ∀ j x,j < k → zs[j]? = some x → lenB x = true)
 case atStart => exact ⟨0,by omega,rfl,rfl,fun j _ h => absurd h (Nat.not_lt_zero j)⟩
 case round =>
  obtain ⟨k,hk,rfl,rfl,hall⟩ := hrel
  have HALL := Lib.hid hall
  clear hall
  by_cases h : k < l
  ·obtain ⟨x,hx⟩ : ∃ x,zs[k]? = some x := ⟨_,List.getElem?_eq_getElem (by have := HL.out;omega)⟩
   obtain ⟨b,o,rfl,hbB,hc⟩ := HC.out (by rw [List.length_map,HL.out];omega)
   have c0 : wr.cell? ⟨b,o + k,none⟩ = some (.int .i64 x) := hc k _ (by rw [List.getElem?_map,hx];rfl)
   have HX := Lib.hid hx
   clear hc hx
   by_cases hx0 : x < 0
   ·have HF : Hid (zs.all lenB = false) := all_bad HX.out (by simp [lenB];omega)
    go_wp2
    go_ret
    exact ⟨by rw [HF.out];rfl,rfl⟩
   by_cases hx1 : 15 < x
   ·have HF : Hid (zs.all lenB = false) := all_bad HX.out (by simp [lenB];omega)
    go_wp2
    go_ret
    exact ⟨by rw [HF.out];rfl,rfl⟩
   ·have HQ : Hid (lenB x = true) := by show _ = _;simp [lenB];omega
    go_wp2
    go_roundg (gk - 1)
    case measure => omega
    case rel => exact ⟨k + 1,by omega,by go_num,rfl,fun j y hj hy => by
      by_cases e : j = k
      ·subst e
       rw [HX.out] at hy
       injection hy with hy
       subst hy
       exact HQ.out
      ·exact HALL.out j y (by omega) hy⟩
  ·obtain rfl : k = l := by omega
   have HA : Hid (zs.all lenB = true) := all_good (fun j x hj hx => HALL.out j x (by have := HL.out;omega) hx)
   go_wp2
   go_ret
   exact ⟨by rw [HA.out];rfl,rfl⟩
theorem parts_any (A : Option Addr) (l c : Nat) (w : World) :
  Calls Tryz.prog 190 #[.slice A l c] w fun e w' => e = .returned (.func (.func 220) #[] #[.pointer (some ⟨w.heap.size,0,none⟩)]) ∧ w.alloc (.cells #[.slice A l c] 156) = w' := by
 go_enter Tryz.func190,Tryz.ntmps190
 go_wp2
 go_ret
 exact ⟨rfl,rfl⟩
end Go.Proofs.YtaknladkodibaaaGreatDoor
