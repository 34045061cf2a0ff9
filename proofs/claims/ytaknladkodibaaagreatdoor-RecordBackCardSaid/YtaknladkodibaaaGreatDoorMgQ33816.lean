/- The sums of bytes: the contracts of Make, Go, Sum and Join over a table in memory, and of the reference's Go and Sum. -/
import Derived.Test.YtaknladkodibaaaGreatDoorRows
import Derived.Test.YtaknladkodibaaaGreatDoorMgQ33800
import Derived.Test.YtaknladkodibaaaGreatDoorMgQ33808
import Derived.WalkKit
import Derived.WalkSpells
import Derived.WalkLawsBesides
import Derived.Lib.Hide
import Derived.Deep.WholeRow
import Derived.Test.YtaknladkodibaaaGreatDoorMgQ33802
namespace Go.Proofs.YtaknladkodibaaaGreatDoor
open Go.RowKit CrcP
theorem ret_int {k:IntKind} {a b:Int} (h:a = b):Ending.returned (.int k a) = .returned (.int k b):=by rw [h]
theorem bits_turn {m:Nat} (h:m < 4294967296):bits .xor .u32 ((m:Int) / 2) 3988292384 = ((m / 2 ^^^ 3988292384:Nat):Int):=by
 have:=u32_xor_nat (m / 2) 3988292384 (by omega) (by omega)
 rw [← this]
 rfl
theorem turn_odd {n:Nat} (h:n % 2 = 1):turn n = n / 2 ^^^ 3988292384:=by unfold turn;rw [if_pos h]
theorem turn_even {n:Nat} (h:¬ n % 2 = 1):turn n = n / 2:=by unfold turn;rw [if_neg h]
set_option maxHeartbeats 400000 in
theorem turn_any (n:Int) (w:World) (h0:0 ≤ n) (h1:n < 4294967296) :
  Calls Tryz.prog 29 #[.int .u32 n] w fun e w' => e = .returned (.int .u32 (turn n.toNat:Nat))∧w = w':=by
 obtain ⟨m,rfl⟩:=Int.eq_ofNat_of_zero_le h0
 rw [Int.toNat_natCast]
 by_cases hm:m % 2 = 1
 ·have HT:=Lib.hid (turn_odd hm)
  have hd:(((m:Int) % 2) == 1) = true:=by simp;omega
  clear hm
  go_enter Tryz.func29,Tryz.ntmps29
  go_wp2
  go_ret
  exact ⟨ret_int (by rw [HT.out];exact bits_turn (by omega)),rfl⟩
 ·have HT:=Lib.hid (turn_even hm)
  have hd:(((m:Int) % 2) == 1) = false:=by simp;omega
  clear hm
  go_enter Tryz.func29,Tryz.ntmps29
  go_wp2
  go_ret
  exact ⟨by rw [HT.out];rfl,rfl⟩
def tabUpto (k:Nat):Array Value:=((List.range 256).map fun i => Value.int .u32 ((if i < k then tabAt i else 0:Nat):Int)).toArray
def tabCells:Array Value:=((List.range 256).map fun i => Value.int .u32 (tabAt i:Int)).toArray
theorem tabUpto_size (k:Nat):(tabUpto k).size = 256:=by simp [tabUpto]
theorem tabCells_size:tabCells.size = 256:=by simp [tabCells]
theorem tabUpto_zero:Array.replicate 256 (Value.int .u32 0) = tabUpto 0:=by
 apply Array.ext_getElem?
 intro i
 unfold tabUpto
 by_cases h:i < 256
 ·simp [h]
 ·simp [h]
theorem tabUpto_all:tabUpto 256 = tabCells:=by
 unfold tabUpto tabCells
 rw [List.map_congr_left (l:=List.range 256) (g:=fun i => Value.int .u32 (tabAt i:Int))]
 intro i hi
 rw [if_pos (List.mem_range.1 hi)]
theorem tabUpto_set (k:Nat) (h:k < 256):(tabUpto k).setIfInBounds k (.int .u32 (tabAt k:Int)) = tabUpto (k + 1):=by
 apply Array.ext_getElem?
 intro i
 rw [Array.getElem?_setIfInBounds,tabUpto_size]
 unfold tabUpto
 by_cases hi:k = i
 ·subst hi
  simp [h]
 ·by_cases h2:i < 256
  ·by_cases h3:i < k
   ·have:i < k + 1:=by omega
    simp [hi,h2,h3,this]
   ·have:¬ i < k + 1:=by omega
    simp [hi,h2,h3,this]
  ·simp [hi,h2]
theorem tabUpto_here (k:Nat) (h:k < 256):(tabUpto k)[k]? = some (Value.int .u32 0):=by
 unfold tabUpto
 simp [h]
theorem tabCells_at (i:Nat) (h:i < 256):tabCells[i]? = some (.int .u32 (tabAt i:Int)):=by
 unfold tabCells
 simp [h]
theorem tabCells_one:tabCells.all (·.oneCell') = true:=by
 rw [Array.all_eq_true_iff_forall_mem]
 intro v hv
 unfold tabCells at hv
 simp at hv
 obtain ⟨i,_,rfl⟩:=hv
 rfl
theorem tableInfo:(Tryz.prog.info? 28).map (fun i => (i.zero,i.size)) = some (some (.agg (Array.replicate 256 (.int .u32 0))),256):=by kernel_rfl
theorem below_setRow {B:Nat} {a w:World} (h:Below B a w) {g:Nat} (hg:B ≤ g) (cs:Array Value):Below B a (w.setRow g cs) :=
 h.trans ⟨rfl,rfl,rfl,by simp,fun k hk => by
  simp only [World.setRow,Array.getElem?_modify]
  rw [if_neg (by omega)]⟩
set_option maxHeartbeats 1000000 in
set_option maxRecDepth 100000 in
theorem make_any (w:World) :
  Calls Tryz.prog 11 #[] w fun e w' => e = .returned (.agg tabCells)∧Below w.heap.size w w':=by
 obtain ⟨hz,hi⟩:=zero_of_info tableInfo
 have HI:=Lib.hid hi
 clear hi
 go_enter Tryz.func11,Tryz.ntmps11
 go_wp2
 rw [tabUpto_zero]
 clear hz
 go_loopw [4] (fun i wx => ∃ k:Nat,k ≤ 256∧i = .int .i64 k∧wx = (w.alloc (.cells (tabUpto 0) 28)).alloc (.cells (tabUpto k) 28)) (fun i _ => 256 - (intOf i).toNat)
 case atStart => exact ⟨0,by omega,rfl,rfl⟩
 case round =>
  obtain ⟨k,hk,rfl,rfl⟩:=hrel
  by_cases hlt:k < 256
  ·have HSET:=Lib.hid (tabUpto_set k hlt)
   have hd:decide ((k:Int) < 256) = true:=by simp;omega
   have hg:=tabUpto_here k hlt
   go_wp2
   go_loop [3,9] (fun n j => ∃ q:Nat,q ≤ 8∧j = .int .i64 q∧n = .int .u32 (turns q k:Nat)) (fun _ j => 8 - (intOf j).toNat)
   case atStart => exact ⟨0,by omega,rfl,rfl⟩
   case round =>
    obtain ⟨q,hq,rfl,rfl⟩:=hrel
    have hl:turns q k < 4294967296:=turns_lt (by omega) q
    have HS:Hid (turns (q + 1) k = turn (turns q k)):=rfl
    have HT:Hid (8 = q→turns q k = tabAt k):=fun h => by subst h;rfl
    generalize turns q k = a at *
    by_cases hq8:q < 8
    ·go_wp2_with (go_at_call 29;refine (turn_any _ _ (by omega) (by omega)).mono ?_;rintro e w' ⟨rfl,rfl⟩;rw [Int.toNat_natCast])
     go_round
     case rel => exact ⟨q + 1,by omega,by go_num,by rw [HS.out]⟩
     case measure => simp [intOf];omega
    ·obtain rfl:q = 8:=by omega
     have hta:=HT.out rfl
     subst hta
     clear HT HS
     go_wp2
     go_roundw
     case rel => exact ⟨k + 1,by omega,by go_num,by rw [HSET.out]⟩
     case measure => simp [intOf];omega
  ·obtain rfl:k = 256:=by omega
   rw [tabUpto_all]
   have HG1:=Lib.hid (heap_alloc2_new w (.cells (tabUpto 0) 28) (.cells tabCells 28))
   have HG0:=Lib.hid (heap_alloc2_old w (.cells (tabUpto 0) 28) (.cells tabCells 28))
   have HSZ:(Tryz.prog.info? 28).map (·.size) = some tabCells.size:=by rw [tabCells_size];exact HI.out
   have HSZ':=Lib.hid HSZ
   clear HSZ
   go_wp2_with (first | (refine wpList_load_row rfl 28 _ rfl (w.heap.size + 1) rfl 28 tabCells (0,0) _ HG1.out Tryz.underlying28 rfl HSZ'.out ?_) | (refine wpList_store_row rfl 28 _ _ rfl w.heap.size tabCells rfl rfl 28 (tabUpto 0) HG0.out HSZ'.out (by rw [tabUpto_size,tabCells_size]) tabCells_one ?_))
   refine bodyPost_ret (v:=.agg tabCells) ?_ rfl ⟨rfl,below_setRow (((Below.refl _ _).alloc (Nat.le_refl _) _).alloc (by simp) _) (Nat.le_refl _) _⟩
   exact results_cell_row rfl _ _ w.heap.size 28 tabCells (0,0) _ rfl (setRow_heap _ _ _ _ _ _ HG0.out) Tryz.underlying28 rfl HSZ'.out
def Table (w:World) (g:Nat):Prop:=w.heap[g]? = some (.cells tabCells 28 (0,0))
theorem Table.at_ {w:World} {g:Nat} (h:Table w g) (i:Nat) (hi:i < 256):w.cell? ⟨g,i,none⟩ = some (.int .u32 (tabAt i:Int)):=by
 rw [cell_of_row w g i tabCells _ _ h]
 exact tabCells_at i hi
theorem u32_xor_cast {t a:Nat} (ht:t < 4294967296) (ha:a / 256 < 4294967296):bits .xor .u32 (t:Int) ((a:Int) / 256) = ((t ^^^ a / 256:Nat):Int):=by
 rw [← u32_xor_nat t (a / 256) ht ha]
 rfl
theorem u32_xor_all {t:Nat} (ht:t < 4294967296):bits .xor .u32 (t:Int) 4294967295 = ((t ^^^ 4294967295:Nat):Int):=by
 rw [← u32_xor_nat t 4294967295 ht (by omega)]
 rfl
theorem goN_take {bs:List UInt8} {k:Nat} {x:UInt8} (n:Nat) (h:bs[k]? = some x):goN n (bs.take (k + 1)) = goStep (goN n (bs.take k)) x.toNat:=by
 rw [List.take_add_one,h]
 exact goN_snoc n _ x
set_option maxRecDepth 100000 in
set_option maxHeartbeats 1000000 in
theorem go_any (g:Nat) (n:Int) (A:Option Addr) (l c:Nat) (bs:List UInt8) (B:Nat) (w:World) (h0:0 ≤ n) (h1:n < 4294967296) (hl:bs.length = l) (hm:l ≤ 9223372036854775807)
  (hT:Table w g) (hb:Bytes w B A bs) :
  Calls Tryz.prog 114 #[.pointer (some ⟨g,0,none⟩),.int .u32 n,.slice A l c] w fun e w' => e = .returned (.int .u32 (goN n.toNat bs:Nat))∧w = w':=by
 obtain ⟨m,rfl⟩:=Int.eq_ofNat_of_zero_le h0
 rw [Int.toNat_natCast]
 have hm32:m < 4294967296:=by omega
 clear h0 h1
 have HL:=Lib.hid hl
 have HT:=Lib.hid hT.at_
 have HB:Hid (Bytes w B A bs):=hb
 clear hl hT hb
 go_enter Tryz.func114,Tryz.ntmps114
 go_wp2
 go_loop [1,13] (fun n i => ∃ k:Nat,k ≤ l∧i = .int .i64 k∧n = .int .u32 (goN m (bs.take k):Nat)) (fun _ i => l - (intOf i).toNat)
 case atStart => exact ⟨0,Nat.zero_le _,rfl,rfl⟩
 case round =>
  obtain ⟨k,hk,rfl,rfl⟩:=hrel
  have hlt:=goN_lt (bs.take k) hm32
  by_cases hkl:k < l
  ·obtain ⟨x,hxk⟩:=get_lt (bs:=bs) (k:=k) (by rw [HL.out];exact hkl)
   have HS:=Lib.hid (goN_take m hxk)
   obtain ⟨b,o,rfl,hbB,hcell⟩:=HB.out (by rw [byteCells_length,HL.out];omega)
   have hc:=hcell k _ (byteCells_get hxk)
   have hx:x.toNat < 256:=UInt8.toNat_lt x
   clear hcell hxk
   generalize goN m (bs.take k) = a at *
   generalize x.toNat = x at *
   have hxor:a % 256 ^^^ x < 256:=Nat.xor_lt_two_pow (n:=8) (by omega) (by omega)
   have ht:=HT.out (a % 256 ^^^ x) hxor
   have htl:=tabAt_lt hxor
   have HSS:Hid (goStep a x = tabAt (a % 256 ^^^ x) ^^^ a / 256):=rfl
   generalize tabAt (a % 256 ^^^ x) = t at *
   generalize hj:a % 256 ^^^ x = j at *
   have hb8:bits .xor .u8 ((a:Int) % 256) (x:Int) = (j:Int):=by
    have h:=u8_xor_nat (a % 256) x (by omega) hx
    rw [hj] at h
    rw [← h]
    rfl
   clear hj
   go_wp2
   go_round
   case rel => exact ⟨k + 1,by omega,by go_num,by rw [HS.out,HSS.out];exact congrArg _ (u32_xor_cast htl (by omega))⟩
   case measure => simp [intOf];omega
  ·obtain rfl:k = l:=by omega
   have HK:Hid (bs.take k = bs):=List.take_of_length_le (by rw [HL.out];exact Nat.le_refl _)
   go_wp2
   go_ret
   exact ⟨ret_int (by rw [HK.out]),rfl⟩
theorem goN_sum (a b:List UInt8):goN (goN 4294967295 a) b ^^^ 4294967295 = sumN (a++b):=by unfold sumN;rw [goN_append]
set_option maxRecDepth 100000 in
set_option maxHeartbeats 1000000 in
theorem join_any (g:Nat) (A₁:Option Addr) (l₁ c₁:Nat) (bs₁:List UInt8) (A₂:Option Addr) (l₂ c₂:Nat) (bs₂:List UInt8) (B:Nat) (w:World) (hl₁:bs₁.length = l₁) (hm₁:l₁ ≤ 9223372036854775807)
  (hl₂:bs₂.length = l₂) (hm₂:l₂ ≤ 9223372036854775807) (hT:Table w g) (hb₁:Bytes w B A₁ bs₁) (hb₂:Bytes w B A₂ bs₂) :
  Calls Tryz.prog 70 #[.pointer (some ⟨g,0,none⟩),.slice A₁ l₁ c₁,.slice A₂ l₂ c₂] w fun e w' => e = .returned (.int .u32 (sumN (bs₁++bs₂):Nat))∧w = w':=by
 have H1:=Lib.hid hl₁
 have H2:=Lib.hid hl₂
 have HT:Hid (Table w g):=hT
 have HB1:Hid (Bytes w B A₁ bs₁):=hb₁
 have HB2:Hid (Bytes w B A₂ bs₂):=hb₂
 clear hl₁ hl₂ hT hb₁ hb₂
 go_enter Tryz.func70,Tryz.ntmps70
 go_wp2_with fail
 refine (go_any g _ _ _ _ bs₁ B _ (by omega) (by omega) H1.out hm₁ HT.out HB1.out).mono ?_
 rintro e w' ⟨rfl,rfl⟩
 have hlt:goN 4294967295 bs₁ < 4294967296:=goN_lt bs₁ (by omega)
 have HS:=Lib.hid (goN_sum bs₁ bs₂)
 rw [show (4294967295:Int).toNat = 4294967295 from rfl]
 generalize goN 4294967295 bs₁ = a at *
 go_wp2_with fail
 refine (go_any g _ _ _ _ bs₂ B _ (by omega) (by omega) H2.out hm₂ HT.out HB2.out).mono ?_
 rintro e w' ⟨rfl,rfl⟩
 rw [Int.toNat_natCast]
 have hlt2:goN a bs₂ < 4294967296:=goN_lt bs₂ hlt
 generalize goN a bs₂ = d at *
 go_wp2
 go_ret
 exact ⟨ret_int (by rw [← HS.out];exact u32_xor_all hlt2),rfl⟩
set_option maxRecDepth 100000 in
set_option maxHeartbeats 1000000 in
theorem sum_any (g:Nat) (A:Option Addr) (l c:Nat) (bs:List UInt8) (B:Nat) (w:World) (hl:bs.length = l) (hm:l ≤ 9223372036854775807) (hT:Table w g) (hb:Bytes w B A bs) :
  Calls Tryz.prog 33 #[.pointer (some ⟨g,0,none⟩),.slice A l c] w fun e w' => e = .returned (.int .u32 (sumN bs:Nat))∧w = w':=by
 have H1:=Lib.hid hl
 have HT:Hid (Table w g):=hT
 have HB1:Hid (Bytes w B A bs):=hb
 clear hl hT hb
 go_enter Tryz.func33,Tryz.ntmps33
 go_wp2_with fail
 refine (join_any g _ _ _ bs _ 0 _ [] B _ H1.out hm rfl (by omega) HT.out HB1.out (Cells.nil _ _ _)).mono ?_
 rintro e w' ⟨rfl,rfl⟩
 rw [List.append_nil]
 go_wp2
 go_ret
 exact ⟨rfl,rfl⟩
theorem table_new (w:World):Table (w.alloc (.cells tabCells 28)) w.heap.size:=heap_alloc_last w _
theorem Table.alloc {w:World} {g:Nat} (h:Table w g) (o:Obj):Table (w.alloc o) g:=by
 unfold Table at h ⊢
 rw [Below.heap_alloc w o g (Array.getElem?_eq_some_iff.1 h).1]
 exact h
theorem Table.below {w w':World} {g B:Nat} (h:Table w g) (hb:Below B w w') (hg:g < B):Table w' g:=(hb.block g hg).trans h
theorem Table.lt {w:World} {g:Nat} (h:Table w g):g < w.heap.size:=(Array.getElem?_eq_some_iff.1 h).1
theorem tableSize:(Tryz.prog.info? 28).map (·.size) = some tabCells.size:=by
 rw [tabCells_size]
 exact (zero_of_info tableInfo).2
end Go.Proofs.YtaknladkodibaaaGreatDoor
namespace Go.Proofs.YtaknladkodibaaaGreatDoor
open Go.RowKit
set_option maxHeartbeats 400000 in
theorem rcWithin_any (A:Option Addr) (l c:Nat) (nm:ByteArray) (at_ fr ar sz su me:Int) (w:World) (hl:l ≤ 1099511627776) (f0:0 ≤ fr) (f1:fr ≤ 1099511627776) :
  Calls Tryz.prog 48 #[.slice A l c,.agg #[.string nm,.int .i64 at_,.int .i64 fr,.int .i64 ar,.int .i64 sz,.int .u32 su,.int .i64 me]] w fun e w' => e = .returned (.bool (decide (ar ≤ (l:Int) - fr)))∧Below w.heap.size w w':=by
 go_enter Tryz.func48,Tryz.ntmps48
 go_wp2
 go_ret
 exact ⟨rfl,(Below.refl _ w).alloc (Nat.le_refl _) _⟩
end Go.Proofs.YtaknladkodibaaaGreatDoor
namespace Go.Proofs.YtaknladkodibaaaGreatDoor
open Go.RowKit BitsP
theorem ret_int3 {k:IntKind} {a b:Int} (h:a = b):Ending.returned (.int k a) = .returned (.int k b):=by rw [h]
set_option maxHeartbeats 400000 in
theorem count3_any (b:Int) (w:World) (h0:-9223372036854775808 ≤ b) (h1:b ≤ 9223372036854775807) :
  Calls Tryz.prog 176 #[.int .i64 b] w fun e w' => e = .returned (.int .i64 (cnt b:Nat))∧w = w':=by
 by_cases c1:b < 0
 ·have HC:Hid ((cnt b:Int) = 0):=by show (cnt b:Int) = 0;unfold cnt;rw [if_pos c1];rfl
  go_enter Tryz.func176,Tryz.ntmps176
  go_wp2
  go_ret
  exact ⟨ret_int3 HC.out.symm,rfl⟩
 ·by_cases c4:32 < b
  ·have HC:Hid ((cnt b:Int) = 32):=by show (cnt b:Int) = 32;unfold cnt;rw [if_neg c1,if_pos c4];rfl
   go_enter Tryz.func176,Tryz.ntmps176
   go_wp2
   go_ret
   exact ⟨ret_int3 HC.out.symm,rfl⟩
  ·have HC:Hid ((cnt b:Int) = b):=cnt_of (by omega) (by omega)
   go_enter Tryz.func176,Tryz.ntmps176
   go_wp2
   go_ret
   exact ⟨ret_int3 HC.out.symm,rfl⟩
theorem pow_int (k:Nat):((2:Int) ^ k) = (p2 k:Int):=by rw [p2_pow];simp
theorem p2_lt32 {k:Nat} (h:k ≤ 32):p2 k ≤ 4294967296:=p2_le h
theorem wrap_p2 {k:Nat} (h:k ≤ 32):IntKind.u64.wrap ((2:Int) ^ k) = (p2 k:Int):=by
 have:=p2_lt32 h
 rw [pow_int]
 exact IntWalk.u64_in _ (by omega)
theorem low_val {n k:Nat} (hn:n < 18446744073709551616) (hk:k ≤ 32):bits .and .u64 (n:Int) (IntKind.u64.wrap (IntKind.u64.wrap (2 ^ k) - 1)) = ((n % p2 k:Nat):Int):=by
 have h1:=p2_lt32 hk
 have h2:=p2_pos k
 rw [wrap_p2 hk,IntWalk.u64_in _ (by omega)]
 have e:(p2 k:Int) - 1 = ((p2 k - 1:Nat):Int):=by omega
 rw [e,u64_and_nat _ _ hn (by omega),p2_pow,Nat.and_two_pow_sub_one_eq_mod]
set_option maxHeartbeats 400000 in
theorem low_any (n:Int) (k:Nat) (w:World) (n0:0 ≤ n) (n1:n < 18446744073709551616) (hk:k ≤ 32) :
  Calls Tryz.prog 175 #[.int .u64 n,.int .i64 k] w fun e w' => e = .returned (.int .u64 (n.toNat % p2 k:Nat))∧w = w':=by
 obtain ⟨m,rfl⟩:=Int.eq_ofNat_of_zero_le n0
 rw [Int.toNat_natCast]
 have hm:m < 18446744073709551616:=by omega
 go_enter Tryz.func175,Tryz.ntmps175
 go_wp2
 go_ret
 exact ⟨ret_int3 (low_val hm hk),rfl⟩
end Go.Proofs.YtaknladkodibaaaGreatDoor
