/- Layer 12: a number's class, the least number of a class, the number of a class and bits. -/
import Derived.Test.YtaknladkodibaaaGreatDoorRows
import Derived.Test.YtaknladkodibaaaGreatDoorMgQ33809
import Derived.Test.YtaknladkodibaaaGreatDoorMgQ33800
import Derived.Test.YtaknladkodibaaaGreatDoorSymLen
import Derived.WalkKit
import Derived.WalkSpells
import Derived.WalkLawsBesides
import Derived.Lib.Hide
import Derived.Deep.RegionHeld3
import Derived.Deep.DrawnRows
import Derived.Deep.LoopGhost
import Derived.StillTailTactics
import Derived.Deep.RegionLaw
import Derived.Deep.WholeRow
namespace Go.Proofs.YtaknladkodibaaaGreatDoor
open Go.RowKit SymP
attribute [local go_sem ↓] Go.wp_at_zero Go.wp_at_succ
theorem bitLenAux_zero (f:Nat):Lib.bitLenAux f 0 = 0:=by cases f <;> simp [Lib.bitLenAux]
theorem bitLenAux_of:∀ (k f x:Nat),k ≤ f→x < 2 ^ k→2 ^ k ≤ 2 * x→Lib.bitLenAux f x = k
 | 0,f,x,_,h1,h2 => by rw [Nat.pow_zero] at h1 h2;omega
 | k + 1,0,x,h,_,_ => by omega
 | k + 1,f + 1,x,h,h1,h2 => by
  rw [Nat.pow_succ] at h1 h2
  have hx:x ≠ 0:=by
   have:0 < 2 ^ k:=Nat.pow_pos (by omega)
   omega
  rw [Lib.bitLenAux,if_neg hx]
  cases k with
  | zero =>
   have e:x / 2 = 0:=by omega
   rw [e]
   rw [bitLenAux_zero]
  | succ k =>
   have:=bitLenAux_of (k + 1) f (x / 2) (by omega) (by omega) (by rw [Nat.pow_succ] at h1 h2 ⊢;omega)
   omega
theorem bitLen_lenC (v:Nat) (h:v < 32768):Lib.bitLen v = lenC v:=by
 unfold Lib.bitLen lenC
 by_cases h0:v < 2
 ·rw [if_pos h0]
  have e:v = 0 ∨ v = 1:=by omega
  rcases e with rfl | rfl
  ·exact bitLenAux_zero 64
  ·exact bitLenAux_of 1 64 1 (by omega) (by omega) (by omega)
 rw [if_neg h0]
 have c:∀ k:Nat,k ≤ 64→v < 2 ^ k→2 ^ k ≤ 2 * v→Lib.bitLenAux 64 v = k:=fun k a b d => bitLenAux_of k 64 v a b d
 generalize Lib.bitLenAux 64 v = q at *
 by_cases h1:v < 4;· rw [if_pos h1];exact c 2 (by omega) (by omega) (by omega)
 by_cases h2:v < 8;· rw [if_neg h1,if_pos h2];exact c 3 (by omega) (by omega) (by omega)
 by_cases h3:v < 16;· rw [if_neg h1,if_neg h2,if_pos h3];exact c 4 (by omega) (by omega) (by omega)
 rw [if_neg h1,if_neg h2,if_neg h3]
 by_cases h4:v < 32;· rw [if_pos h4];exact c 5 (by omega) (by omega) (by omega)
 by_cases h5:v < 64;· rw [if_neg h4,if_pos h5];exact c 6 (by omega) (by omega) (by omega)
 by_cases h6:v < 128;· rw [if_neg h4,if_neg h5,if_pos h6];exact c 7 (by omega) (by omega) (by omega)
 rw [if_neg h4,if_neg h5,if_neg h6]
 by_cases h7:v < 256;· rw [if_pos h7];exact c 8 (by omega) (by omega) (by omega)
 by_cases h8:v < 512;· rw [if_neg h7,if_pos h8];exact c 9 (by omega) (by omega) (by omega)
 by_cases h9:v < 1024;· rw [if_neg h7,if_neg h8,if_pos h9];exact c 10 (by omega) (by omega) (by omega)
 rw [if_neg h7,if_neg h8,if_neg h9]
 by_cases ha:v < 2048;· rw [if_pos ha];exact c 11 (by omega) (by omega) (by omega)
 by_cases hb:v < 4096;· rw [if_neg ha,if_pos hb];exact c 12 (by omega) (by omega) (by omega)
 by_cases hc:v < 8192;· rw [if_neg ha,if_neg hb,if_pos hc];exact c 13 (by omega) (by omega) (by omega)
 rw [if_neg ha,if_neg hb,if_neg hc]
 by_cases hd:v < 16384;· rw [if_pos hd];exact c 14 (by omega) (by omega) (by omega)
 rw [if_neg hd]
 exact c 15 (by omega) (by omega) (by omega)
theorem len12_any (v:Nat) (w:World) (h:v < 32768) :
  Calls Tryz.prog 196 #[.int .u64 v] w fun e w' => e = .returned (.int .i64 (lenC v:Nat))∧w = w':=by
 refine (bits_Len v w (by omega) (by omega)).mono ?_
 rintro e w' ⟨rfl,rfl⟩
 rw [Int.toNat_natCast,bitLen_lenC v h]
 exact ⟨rfl,rfl⟩
def agC (n b x:Int):Value:=.agg #[.int .i64 n,.int .i64 b,.int .u32 x]
theorem len_of {v k:Nat} (k1:1 ≤ k) (k2:k ≤ 13) (l1:2 * 2 ^ k ≤ v) (l2:v < 4 * 2 ^ k):lenC v = k + 2:=by
 have hk:k = 1 ∨ k = 2 ∨ k = 3 ∨ k = 4 ∨ k = 5 ∨ k = 6 ∨ k = 7 ∨ k = 8 ∨ k = 9 ∨ k = 10 ∨ k = 11 ∨ k = 12 ∨ k = 13:=by omega
 rcases hk with rfl | rfl | rfl | rfl | rfl | rfl | rfl | rfl | rfl | rfl | rfl | rfl | rfl <;>
  (simp only [lenC];repeat (first | rw [if_neg (by omega)] | rw [if_pos (by omega)]))
theorem len_ex {v:Nat} (h4:4 ≤ v) (h:v < 32768):∃ k,1 ≤ k∧k ≤ 13∧2 * 2 ^ k ≤ v∧v < 4 * 2 ^ k:=by
 by_cases b1:v < 8;exact ⟨1,by omega,by omega,by omega,by omega⟩
 by_cases b1:v < 16;exact ⟨2,by omega,by omega,by omega,by omega⟩
 by_cases b1:v < 32;exact ⟨3,by omega,by omega,by omega,by omega⟩
 by_cases b1:v < 64;exact ⟨4,by omega,by omega,by omega,by omega⟩
 by_cases b1:v < 128;exact ⟨5,by omega,by omega,by omega,by omega⟩
 by_cases b1:v < 256;exact ⟨6,by omega,by omega,by omega,by omega⟩
 by_cases b1:v < 512;exact ⟨7,by omega,by omega,by omega,by omega⟩
 by_cases b1:v < 1024;exact ⟨8,by omega,by omega,by omega,by omega⟩
 by_cases b1:v < 2048;exact ⟨9,by omega,by omega,by omega,by omega⟩
 by_cases b1:v < 4096;exact ⟨10,by omega,by omega,by omega,by omega⟩
 by_cases b1:v < 8192;exact ⟨11,by omega,by omega,by omega,by omega⟩
 by_cases b1:v < 16384;exact ⟨12,by omega,by omega,by omega,by omega⟩
 exact ⟨13,by omega,by omega,by omega,by omega⟩
theorem results_cell1 {fn:Func} {p:Tmp} {ty:TypeId} (h:fn.results = #[.cell p ty]) (tmps:Array Value) (P:Program) (w:World) :
  (results fn tmps).run P w = ((asAddr (tmps.getD p undef)).run P w).andThen fun a w₁ => (loadVar ty a).run P w₁:=by
 simp only [results,h]
 simp [Sem.run_bind,Result.andThen]
theorem ofInt_64 (a:Nat) (ha:a < 18446744073709551616):(BitVec.ofInt 64 (a:Int)).toNat = a:=by
 rw [BitVec.ofInt_natCast,BitVec.toNat_ofNat];exact Nat.mod_eq_of_lt (by omega)
theorem i64_and_nat (a b:Nat) (ha:a < 9223372036854775808) (hb:b < 9223372036854775808):bits .and .i64 (a:Int) (b:Int) = ((a &&& b:Nat):Int):=by
 have hx:a &&& b < 2 ^ 63:=Nat.and_lt_two_pow _ (by omega)
 show IntKind.i64.wrap ((BitVec.ofInt 64 (a:Int) &&& BitVec.ofInt 64 (b:Int)).toNat:Int) = _
 rw [BitVec.toNat_and,ofInt_64 a (by omega),ofInt_64 b (by omega)]
 exact IntWalk.i64_in _ (by omega)
theorem of_outx (v:Int) (w:World) (h:v < 0 ∨ 32768 ≤ v) :
  Calls Tryz.prog 154 #[.int .i64 v] w fun e w' => e = .returned (.tuple #[agC 0 0 0,.bool false])∧w.alloc (.cells #[.int .i64 0,.int .i64 0,.int .u32 0] 166) = w':=by
 by_cases h0:v < 0
 ·go_enter Tryz.func154,Tryz.ntmps154
  go_wp2
  refine bodyPost_ret (v:=.tuple #[agC 0 0 0,.bool false]) ?_ rfl ⟨rfl,rfl⟩
  rw [results_cell_tmp rfl]
  go_simp
  rfl
 ·have h1:32768 ≤ v:=by omega
  go_enter Tryz.func154,Tryz.ntmps154
  go_wp2
  refine bodyPost_ret (v:=.tuple #[agC 0 0 0,.bool false]) ?_ rfl ⟨rfl,rfl⟩
  rw [results_cell_tmp rfl]
  go_simp
  rfl
set_option maxRecDepth 100000 in
set_option maxHeartbeats 1000000 in
theorem of_inx (v:Nat) (w:World) (h:v < 32768) :
  Calls Tryz.prog 154 #[.int .i64 v] w fun e w' => e = .returned (.tuple #[agC (classC v:Nat) (bitsC (classC v):Nat) (v % 2 ^ bitsC (classC v):Nat),.bool true])∧(w.alloc (.cells #[.int .i64 (classC v:Nat),.int .i64 (bitsC (classC v):Nat),.int .u32 (v % 2 ^ bitsC (classC v):Nat)] 166) = w' ∨ (w.alloc (.cells #[.int .i64 (classC v:Nat),.int .i64 (bitsC (classC v):Nat),.int .u32 (v % 2 ^ bitsC (classC v):Nat)] 166)).drew = w'):=by
 by_cases h4:v < 4
 ·have e1:classC v = v:=by unfold classC;rw [if_pos h4]
  have e2:bitsC v = 0:=by unfold bitsC;rw [if_pos h4]
  rw [e1,e2,Nat.pow_zero,Nat.mod_one]
  clear e1 e2
  go_enter Tryz.func154,Tryz.ntmps154
  go_wp2
  refine bodyPost_ret (v:=.tuple #[agC v 0 0,.bool true]) ?_ rfl ⟨rfl,.inl rfl⟩
  rw [results_cell_tmp rfl]
  go_simp
  rfl
 ·obtain ⟨k,k1,k2,l1,l2⟩:=len_ex (v:=v) (by omega) h
  have hl:=len_of k1 k2 l1 l2
  have hp0:0 < 2 ^ k:=Nat.pow_pos (by omega)
  have a2:v / 2 ^ k < 4:=(Nat.div_lt_iff_lt_mul hp0).2 l2
  have a1:2 ≤ v / 2 ^ k:=(Nat.le_div_iff_mul_le hp0).2 l1
  have hc:classC v = 2 * k + v / 2 ^ k:=by
   unfold classC
   rw [if_neg h4,hl,Nat.add_sub_cancel]
  have hb:bitsC (classC v) = k:=by
   rw [hc]
   unfold bitsC
   rw [if_neg (by omega)]
   omega
  rw [hb,hc]
  clear hb hc
  obtain ⟨c,hcc⟩:∃ c,2 * k + v / 2 ^ k = c:=⟨_,rfl⟩
  obtain ⟨x,hx⟩:∃ x,v % 2 ^ k = x:=⟨_,rfl⟩
  rw [hcc,hx]
  go_enter Tryz.func154,Tryz.ntmps154
  go_wp2_with (go_at_call 196;refine (len12_any v _ h).mono ?_;rintro e w' ⟨rfl,rfl⟩;rw [hl])
  go_still_tail 14,(by kernel_rfl)
  repeat still_step
  have hp:2 ^ k ≤ 2 ^ 13:=Nat.pow_le_pow_right (by omega) k2
  have cp:((2:Int) ^ k) = ((2 ^ k:Nat):Int):=by rw [Int.natCast_pow];rfl
  have cd:(v:Int) / ((2 ^ k:Nat):Int) = ((v / 2 ^ k:Nat):Int):=by rw [Int.natCast_ediv]
  have e1:IntKind.i64.wrap (2 * (k:Int)) = ((2 * k:Nat):Int):=by rw [show 2 * (k:Int) = ((2 * k:Nat):Int) by omega];exact IntWalk.i64_in _ (by omega)
  have e2:IntKind.i64.wrap (((2 * k:Nat):Int) + ((v / 2 ^ k:Nat):Int)) = ((2 * k + v / 2 ^ k:Nat):Int):=by rw [← Int.natCast_add];exact IntWalk.i64_in _ (by omega)
  have e3:IntKind.i64.wrap ((2 ^ k:Nat):Int) = ((2 ^ k:Nat):Int):=IntWalk.i64_in _ (by omega)
  have e4:IntKind.i64.wrap (((2 ^ k:Nat):Int) - 1) = ((2 ^ k - 1:Nat):Int):=by rw [show (((2 ^ k:Nat):Int) - 1) = ((2 ^ k - 1:Nat):Int) by omega];exact IntWalk.i64_in _ (by omega)
  have e5:bits .and .i64 (v:Int) ((2 ^ k - 1:Nat):Int) = ((v % 2 ^ k:Nat):Int):=by rw [i64_and_nat _ _ (by omega) (by omega),Nat.and_two_pow_sub_one_eq_mod]
  have hm:v % 2 ^ k < 2 ^ k:=Nat.mod_lt _ hp0
  have e6:IntKind.u32.wrap ((v % 2 ^ k:Nat):Int) = ((v % 2 ^ k:Nat):Int):=by rw [IntKind.wrap_u32];omega
  rw [cp,cd,e1,e2,e3,e4,e5,e6,hcc,hx]
  clear hm a1 a2 e1 e2 e3 e4 e5 e6 cp cd hp hp0 l1 l2 hl
  change wpList _ _ _ _ _ (World.drew _)
  go_wp2
  refine bodyPost_ret (v:=.tuple #[agC c k x,.bool true]) ?_ rfl ⟨rfl,.inr ?_⟩
  ·rw [results_cell_tmp rfl]
   go_simp
   rfl
  ·rfl
theorem of_out (v:Int) (w:World) (h:v < 0 ∨ 32768 ≤ v) :
  Calls Tryz.prog 154 #[.int .i64 v] w fun e w' => e = .returned (.tuple #[agC 0 0 0,.bool false])∧Below w.heap.size w w' :=
 (of_outx v w h).mono (by rintro e w' ⟨rfl,rfl⟩;exact ⟨rfl,(Below.refl _ w).alloc (Nat.le_refl _) _⟩)
theorem of_in (v:Nat) (w:World) (h:v < 32768) :
  Calls Tryz.prog 154 #[.int .i64 v] w fun e w' => e = .returned (.tuple #[agC (classC v:Nat) (bitsC (classC v):Nat) (v % 2 ^ bitsC (classC v):Nat),.bool true])∧Below w.heap.size w w' :=
 (of_inx v w h).mono (by
   rintro e w' ⟨rfl,rfl | rfl⟩
   ·exact ⟨rfl,(Below.refl _ w).alloc (Nat.le_refl _) _⟩
   ·exact ⟨rfl,((Below.refl _ w).alloc (Nat.le_refl _) _).drew⟩)
theorem base_in (n:Nat) (w:World) (h:n < 30) :
  Calls Tryz.prog 233 #[.int .i64 n] w fun e w' => e = .returned (.tuple #[.int .i64 (baseC n:Nat),.int .i64 (bitsC n:Nat),.bool true])∧w = w':=by
 by_cases h4:n < 4
 ·have e1:baseC n = n:=by unfold baseC;rw [if_pos h4]
  have e2:bitsC n = 0:=by unfold bitsC;rw [if_pos h4]
  rw [e1,e2]
  clear e1 e2
  go_enter Tryz.func233,Tryz.ntmps233
  go_wp2
  exact bodyPost_ret (results_tmp3 rfl _ _ _) rfl ⟨rfl,rfl⟩
 ·have e1:baseC n = (2 + n % 2) * 2 ^ (n / 2 - 1):=by unfold baseC;rw [if_neg h4]
  have e2:bitsC n = n / 2 - 1:=by unfold bitsC;rw [if_neg h4]
  rw [e1,e2]
  obtain ⟨k,hk⟩:∃ k,n / 2 - 1 = k:=⟨_,rfl⟩
  have h1:IntKind.i64.wrap ((n:Int) / 2 - 1) = (k:Int):=by rw [IntWalk.i64_in _ (by omega)];omega
  rw [hk]
  have HV:Hid (wrap64 ((2 + (n:Int) % 2) * 2 ^ k) = (((2 + n % 2) * 2 ^ k:Nat):Int)):=by
   show _ = _
   have hp:2 ^ k ≤ 2 ^ 13:=Nat.pow_le_pow_right (by omega) (by omega)
   have hq:(2 + n % 2) * 2 ^ k ≤ 3 * 2 ^ 13:=Nat.mul_le_mul (by omega) hp
   have e:(2 + (n:Int) % 2) * 2 ^ k = (((2 + n % 2) * 2 ^ k:Nat):Int):=by
    rw [Int.natCast_mul,Int.natCast_add,Int.natCast_pow,Int.natCast_emod]
    rfl
   rw [e,← IntWalk.i64_left]
   exact IntWalk.i64_in _ (by omega)
  go_enter Tryz.func233,Tryz.ntmps233
  go_wp2
  refine bodyPost_ret (results_tmp3 rfl _ _ _) rfl ⟨?_,rfl⟩
  simp only [← HV.out]
  rfl
theorem base_out (n:Int) (w:World) (h:n < 0 ∨ 30 ≤ n) :
  Calls Tryz.prog 233 #[.int .i64 n] w fun e w' => e = .returned (.tuple #[.int .i64 0,.int .i64 0,.bool false])∧w = w':=by
 by_cases h0:n < 0
 ·go_enter Tryz.func233,Tryz.ntmps233
  go_wp2
  exact bodyPost_ret (results_tmp3 rfl _ _ _) rfl ⟨rfl,rfl⟩
 ·have h1:30 ≤ n:=by omega
  go_enter Tryz.func233,Tryz.ntmps233
  go_wp2
  exact bodyPost_ret (results_tmp3 rfl _ _ _) rfl ⟨rfl,rfl⟩
theorem row3_after {w w':World} {cs:Array Value} {t:TypeId} (h:Below (w.alloc (.cells cs t)).heap.size (w.alloc (.cells cs t)) w'):w'.heap[w.heap.size]? = some (.cells cs t (0,0)) :=
 (h.block _ (by simp)).trans (heap_alloc_last w _)
theorem row3_cells {w:World} {g:Nat} {t:TypeId} {a b c:Value} (h:w.heap[g]? = some (.cells #[a,b,c] t (0,0))) :
  w.cell? ⟨g,0,none⟩ = some a∧w.cell? ⟨g,1,none⟩ = some b∧w.cell? ⟨g,2,none⟩ = some c :=
 ⟨cell_of_row w g 0 _ _ _ h,cell_of_row w g 1 _ _ _ h,cell_of_row w g 2 _ _ _ h⟩
theorem row3_alloc {w:World} {g:Nat} {t:TypeId} {cs:Array Value} (h:w.heap[g]? = some (.cells cs t (0,0))) (o:Obj):(w.alloc o).heap[g]? = some (.cells cs t (0,0)):=by
 rw [Below.heap_alloc w o g (Array.getElem?_eq_some_iff.1 h).1]
 exact h
theorem row3_both {w:World} {g:Nat} {t:TypeId} {a b c:Value} (h:w.heap[g]? = some (.cells #[a,b,c] t (0,0))) :
  (∀ o,(w.alloc o).cell? ⟨g,0,none⟩ = some a)∧(∀ o,(w.alloc o).cell? ⟨g,1,none⟩ = some b)∧(∀ o,(w.alloc o).cell? ⟨g,2,none⟩ = some c) :=
 ⟨fun o => (row3_cells (row3_alloc h o)).1,fun o => (row3_cells (row3_alloc h o)).2.1,fun o => (row3_cells (row3_alloc h o)).2.2⟩
theorem below_call {w w':World} {o:Obj} (h:Below (w.alloc o).heap.size (w.alloc o) w'):Below w.heap.size w w' :=
 ((Below.refl _ w).alloc (Nat.le_refl _) o).trans (h.mono (by simp))
def valC (n b:Int) (x:Nat):Option Nat:=if 0 ≤ n∧n < 30∧b = (bitsC n.toNat:Nat)∧x < 2 ^ bitsC n.toNat then some (baseC n.toNat + x) else none
theorem value_some (n x:Nat) (w:World) (hn:n < 30) (hx:x < 2 ^ bitsC n) :
  Calls Tryz.prog 247 #[agC n (bitsC n:Nat) x] w fun e w' => e = .returned (.tuple #[.int .i64 (baseC n + x:Nat),.bool true])∧Below w.heap.size w w':=by
 have hle:=baseC_top n hn
 have hc:classC (baseC n + x) = n:=class_of hn (by omega) (by omega)
 have hm:(baseC n + x) % 2 ^ bitsC n = x:=by rw [extra_of hn (by omega) (by omega)];omega
 have hof:=fun W => of_in (baseC n + x) W (by omega)
 rw [hc,hm] at hof
 have HOF:=Lib.hid hof
 have HB:=Lib.hid (fun W => base_in n W hn)
 obtain ⟨b,hb⟩:∃ b,bitsC n = b:=⟨_,rfl⟩
 obtain ⟨y,hy⟩:∃ y,baseC n = y:=⟨_,rfl⟩
 rw [hb] at HB HOF hx hle ⊢
 rw [hy] at HB HOF hle ⊢
 have HV:Hid (wrap64 ((y:Int) + x) = ((y + x:Nat):Int)):=by
  show _ = _
  rw [← IntWalk.i64_left,← Int.natCast_add]
  generalize 2 ^ b = z at *
  exact IntWalk.i64_in _ (by omega)
 have hxx:IntKind.i64.wrap (x:Int) = x:=by
  generalize 2 ^ b = z at *
  exact IntWalk.i64_in _ (by omega)
 clear hof hc hm hle hx
 unfold agC at HOF ⊢
 go_enter Tryz.func247,Tryz.ntmps247
 go_wp2_with (first
  | (go_at_call 233;refine (HB.out _).mono ?_;rintro e w' ⟨rfl,rfl⟩)
  | (go_at_call 154;rw [HV.out];refine (HOF.out _).mono ?_;rintro e w4 ⟨rfl,hbw⟩;have HR4:=Lib.hid (row3_after hbw);obtain ⟨q0,q1,q2⟩:=row3_both HR4.out;have HB4:=Lib.hid hbw;clear hbw))
 go_ret2
 exact ⟨rfl,(below_call HB4.out).alloc (by have:=HB4.out.size;simp at this;omega) _⟩
theorem value_far (n b y yb:Int) (ok:Bool) (x:Nat) (w:World) (hy0:0 ≤ y) (hy1:y ≤ 32768) (hx:x < 4294967296) (hf:32768 ≤ y + x)
  (HB:Hid (∀ W,Calls Tryz.prog 233 #[.int .i64 n] W fun e w' => e = .returned (.tuple #[.int .i64 y,.int .i64 yb,.bool ok])∧W = w')) :
  Calls Tryz.prog 247 #[agC n b x] w fun e w' => e = .returned (.tuple #[.int .i64 0,.bool false])∧Below w.heap.size w w':=by
 have HOF:=Lib.hid (fun W => of_out (y + x) W (.inr hf))
 have hxx:IntKind.i64.wrap (x:Int) = x:=IntWalk.i64_in _ (by omega)
 have HV:Hid (wrap64 (y + x) = y + x):=by show _ = _;rw [← IntWalk.i64_left];exact IntWalk.i64_in _ (by omega)
 unfold agC at HOF ⊢
 go_enter Tryz.func247,Tryz.ntmps247
 go_wp2_with (first
  | (go_at_call 233;refine (HB.out _).mono ?_;rintro e w' ⟨rfl,rfl⟩)
  | (go_at_call 154;(try rw [HV.out]);refine (HOF.out _).mono ?_;rintro e w4 ⟨rfl,hbw⟩;have HR4:=Lib.hid (row3_after hbw);obtain ⟨q0,q1,q2⟩:=row3_both HR4.out;have HB4:=Lib.hid hbw;clear hbw))
 go_ret2
 exact ⟨rfl,(below_call HB4.out).alloc (by have:=HB4.out.size;simp at this;omega) _⟩
theorem value_near (n b y yb:Int) (ok:Bool) (x v:Nat) (w:World) (hv:v < 32768) (hyv:y + x = v) (hx:x < 4294967296) (_hy0:0 ≤ y)
  (hne:¬ ((classC v:Int) = n∧(bitsC (classC v):Int) = b∧v % 2 ^ bitsC (classC v) = x))
  (HB:Hid (∀ W,Calls Tryz.prog 233 #[.int .i64 n] W fun e w' => e = .returned (.tuple #[.int .i64 y,.int .i64 yb,.bool ok])∧W = w')) :
  Calls Tryz.prog 247 #[agC n b x] w fun e w' => e = .returned (.tuple #[.int .i64 0,.bool false])∧Below w.heap.size w w':=by
 have HOF:=Lib.hid (fun W => of_in v W hv)
 generalize classC v = c at *
 generalize bitsC c = k at *
 generalize v % 2 ^ k = z at *
 have hxx:IntKind.i64.wrap (x:Int) = x:=IntWalk.i64_in _ (by omega)
 have HV:Hid (wrap64 (y + x) = v):=by show _ = _;rw [← IntWalk.i64_left];rw [IntWalk.i64_in _ (by omega)];exact hyv
 clear hyv
 unfold agC at HOF ⊢
 go_enter Tryz.func247,Tryz.ntmps247
 go_wp2_with (first
  | (go_at_call 233;refine (HB.out _).mono ?_;rintro e w' ⟨rfl,rfl⟩)
  | (go_at_call 154;rw [HV.out];refine (HOF.out _).mono ?_;rintro e w4 ⟨rfl,hbw⟩;have HR4:=Lib.hid (row3_after hbw);obtain ⟨q0,q1,q2⟩:=row3_both HR4.out;have HB4:=Lib.hid hbw;clear hbw))
 all_goals first
  | (go_ret2;exact ⟨rfl,(below_call HB4.out).alloc (by have:=HB4.out.size;simp at this;omega) _⟩)
  | (exfalso;omega)
theorem valC_eq {n b:Int} {x:Nat} {m:Nat} (h:valC n b x = none) (hm:n = m) (hm30:m < 30):¬ (b = (bitsC m:Nat)∧x < 2 ^ bitsC m):=by
 rintro ⟨h1,h2⟩
 subst hm
 unfold valC at h
 rw [Int.toNat_natCast,if_pos ⟨by omega,by omega,h1,h2⟩] at h
 cases h
theorem value_none (n b:Int) (x:Nat) (w:World) (hx:x < 4294967296) (h:valC n b x = none) :
  Calls Tryz.prog 247 #[agC n b x] w fun e w' => e = .returned (.tuple #[.int .i64 0,.bool false])∧Below w.heap.size w w':=by
 by_cases hn:n < 0 ∨ 30 ≤ n
 ·have HB:=Lib.hid (fun W => base_out n W hn)
  by_cases hf:32768 ≤ x
  ·exact value_far n b 0 0 false x w (by omega) (by omega) hx (by omega) HB
  ·have hc:=(class_is x (by omega)).1
   exact value_near n b 0 0 false x x w (by omega) (by omega) hx (by omega) (by omega) HB
 ·obtain ⟨m,rfl⟩:=Int.eq_ofNat_of_zero_le (show 0 ≤ n by omega)
  have hm30:m < 30:=by omega
  have HB:=Lib.hid (fun W => base_in m W hm30)
  have htop:=baseC_top m hm30
  have hno:=valC_eq h rfl hm30
  have hp:0 < 2 ^ bitsC m:=Nat.pow_pos (by omega)
  by_cases hf:32768 ≤ baseC m + x
  ·exact value_far m b (baseC m:Nat) _ true x w (by omega) (by omega) hx (by omega) HB
  ·refine value_near m b (baseC m:Nat) _ true x (baseC m + x) w (by omega) (by omega) hx (by omega) ?_ HB
   rintro ⟨h1,h2,h3⟩
   have h1':classC (baseC m + x) = m:=by omega
   rw [h1'] at h2 h3
   exact hno ⟨h2.symm,by rw [← h3];exact Nat.mod_lt _ hp⟩
end Go.Proofs.YtaknladkodibaaaGreatDoor
