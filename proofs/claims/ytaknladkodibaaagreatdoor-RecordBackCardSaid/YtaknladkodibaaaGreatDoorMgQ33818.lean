/- Numbers as bytes: how many bytes, what stands somewhere, and the reader. -/
import Derived.Test.YtaknladkodibaaaGreatDoorMgQ33816
import Derived.Test.YtaknladkodibaaaGreatDoorMgQ33802
import Derived.Test.YtaknladkodibaaaGreatDoorMgQ338STail
import Derived.Deep.QuietTactic
import Derived.BigQuiet
import Derived.Deep.RegionWith
import Derived.Deep.DrawnRows
import Derived.Test.YtaknladkodibaaaGreatDoorMgQ33800
namespace Go.Proofs.YtaknladkodibaaaGreatDoor
open Go.RowKit FieldP
set_option maxHeartbeats 400000 in
theorem count_any (b:Int) (w:World) (h0:-9223372036854775808 ≤ b) (h1:b ≤ 9223372036854775807) :
  Calls Tryz.prog 103 #[.int .i64 b] w fun e w' => e = .returned (.int .i64 (cnt b:Nat))∧w = w':=by
 by_cases c1:b < 1
 ·have HC:Hid ((cnt b:Int) = 1):=by show (cnt b:Int) = 1;unfold cnt;rw [if_pos c1];rfl
  go_enter Tryz.func103,Tryz.ntmps103
  go_wp2
  go_ret
  exact ⟨ret_int HC.out.symm,rfl⟩
 ·by_cases c4:4 < b
  ·have HC:Hid ((cnt b:Int) = 4):=by show (cnt b:Int) = 4;unfold cnt;rw [if_neg c1,if_pos c4];rfl
   go_enter Tryz.func103,Tryz.ntmps103
   go_wp2
   go_ret
   exact ⟨ret_int HC.out.symm,rfl⟩
  ·have HC:Hid ((cnt b:Int) = b):=cnt_of (by omega) (by omega)
   go_enter Tryz.func103,Tryz.ntmps103
   go_wp2
   go_ret
   exact ⟨ret_int HC.out.symm,rfl⟩
def orZero:Option Nat→Int × Bool
 | some n => ((n:Int),true)
 | none => (0,false)
theorem or_shift {m x s:Nat} (hm:m < 2 ^ s) (h:2 ^ s * x < 4294967296) (hm2:m < 4294967296):bits .or .u32 (m:Int) ((2 ^ s * x:Nat):Int) = ((m + 2 ^ s * x:Nat):Int):=by
 rw [u32_or_nat _ _ hm2 h,Nat.or_comm,← Nat.two_pow_add_eq_or_of_lt hm,Nat.add_comm]
theorem or_byte {m:Nat} (x s:Nat) (hs:s ≤ 24) (hm:m < 2 ^ s) (hx:x < 256):bits .or .u32 (m:Int) ((x:Int) * 2 ^ s) = ((m + 2 ^ s * x:Nat):Int):=by
 have h1:2 ^ s ≤ 2 ^ 24:=Nat.pow_le_pow_right (by omega) hs
 have h2:2 ^ s * x ≤ 2 ^ 24 * 255:=Nat.mul_le_mul h1 (by omega)
 rw [← or_shift hm (by omega) (by omega)]
 congr 1
 rw [Nat.mul_comm,Int.natCast_mul,Int.natCast_pow]
 rfl
theorem or_byte0 {m x:Nat} (hm:m < 2 ^ 0) (hx:x < 256):bits .or .u32 (m:Int) (x:Int) = ((m + 2 ^ 0 * x:Nat):Int):=by
 have h:=or_byte x 0 (by omega) hm hx
 rwa [Int.pow_zero,Int.mul_one] at h
set_option maxRecDepth 100000 in
set_option maxHeartbeats 400000 in
theorem get_any (A:Option Addr) (l c:Nat) (bs:List UInt8) (B:Nat) (a b:Int) (w:World) (hl:bs.length = l) (hm:l ≤ 9223372036854775807)
  (a0:-9223372036854775808 ≤ a) (a1:a ≤ 9223372036854775807) (b0:-9223372036854775808 ≤ b) (b1:b ≤ 9223372036854775807) (hb:Bytes w B A bs) :
  Calls Tryz.prog 131 #[.slice A l c,.int .i64 a,.int .i64 b] w fun e w' => e = .returned (.tuple #[.int .u32 (orZero (getN bs a (cnt b))).1,.bool (orZero (getN bs a (cnt b))).2])∧w = w':=by
 have HL:=Lib.hid hl
 have HB:Hid (Bytes w B A bs):=hb
 have HCNT:=Lib.hid (count_any b w b0 b1)
 have hc4:=cnt_le b
 have hc1:=cnt_pos b
 clear hl hb b0 b1
 generalize cnt b = q at *
 by_cases ha:a < 0
 ·have HG:Hid (getN bs a q = none):=by show getN bs a q = none;unfold getN;rw [if_neg (by omega)]
  go_enter Tryz.func131,Tryz.ntmps131
  go_wp2
  go_ret2
  exact ⟨by rw [HG.out];rfl,rfl⟩
 obtain ⟨p,rfl⟩:=Int.eq_ofNat_of_zero_le (show 0 ≤ a by omega)
 by_cases ht:(l:Int) - q < p
 ·have HG:Hid (getN bs p q = none):=by show getN bs p q = none;unfold getN;rw [if_neg (by rw [HL.out];omega)]
  go_enter Tryz.func131,Tryz.ntmps131
  go_wp2_with (go_at_call 103;refine HCNT.out.mono ?_;rintro e w' ⟨rfl,rfl⟩)
  go_ret2
  exact ⟨by rw [HG.out];rfl,rfl⟩
 have HG:=Lib.hid (getN_some (bs:=bs) (a:=p) (k:=q) (by rw [HL.out];omega))
 go_enter Tryz.func131,Tryz.ntmps131
 go_wp2_with (go_at_call 103;refine HCNT.out.mono ?_;rintro e w' ⟨rfl,rfl⟩)
 go_loop [8,9,23] (fun n _ i => ∃ k:Nat,k ≤ q∧i = .int .i64 k∧n = .int .u32 (val ((bs.drop p).take k):Nat)) (fun _ _ i => q - (intOf i).toNat)
 case atStart => exact ⟨0,Nat.zero_le _,rfl,by simp [val]⟩
 case round =>
  obtain ⟨k,hk,rfl,rfl⟩:=hrel
  by_cases hkq:k < q
  ·obtain ⟨x,hxk⟩:=get_lt (bs:=bs) (k:=p + k) (by rw [HL.out];omega)
   have HS:=Lib.hid (val_snoc hxk)
   have hvl:=val_take_lt (bs:=bs) (a:=p) (k:=k) (by rw [HL.out];omega)
   obtain ⟨b',o,rfl,hbB,hcell⟩:=HB.out (by rw [byteCells_length,HL.out];omega)
   have hc:=hcell (p + k) _ (byteCells_get hxk)
   have hx:x.toNat < 256:=UInt8.toNat_lt x
   clear hcell hxk
   generalize val ((bs.drop p).take k) = m at *
   generalize x.toNat = x at *
   have hk4:k = 0 ∨ k = 1 ∨ k = 2 ∨ k = 3:=by omega
   rcases hk4 with rfl | rfl | rfl | rfl
   ·rw [Nat.add_zero] at hc
    have hv:m < 2 ^ 0:=hvl
    go_wp2
    go_round
    case rel => exact ⟨1,by omega,by go_num,by rw [HS.out];exact congrArg _ (or_byte0 hv hx)⟩
    case measure => simp [intOf];omega
   ·have hv:m < 2 ^ 8:=hvl
    go_wp2
    go_round
    case rel => exact ⟨2,by omega,by go_num,by rw [HS.out];exact congrArg _ (or_byte x 8 (by omega) hv hx)⟩
    case measure => simp [intOf];omega
   ·have hv:m < 2 ^ 16:=hvl
    go_wp2
    go_round
    case rel => exact ⟨3,by omega,by go_num,by rw [HS.out];exact congrArg _ (or_byte x 16 (by omega) hv hx)⟩
    case measure => simp [intOf];omega
   ·have hv:m < 2 ^ 24:=hvl
    go_wp2
    go_round
    case rel => exact ⟨4,by omega,by go_num,by rw [HS.out];exact congrArg _ (or_byte x 24 (by omega) hv hx)⟩
    case measure => simp [intOf];omega
  ·obtain rfl:k = q:=by omega
   go_wp2
   go_ret2
   exact ⟨by rw [HG.out];rfl,rfl⟩
theorem byteElem:Elem Tryz.prog 25 5 (.int .u8 0) 1 1:=Elem.of Tryz.underlying25 (by kernel_rfl) rfl (by omega)
theorem byteCells_snoc (bs:List UInt8) (n:Nat):byteCells bs++[Value.int .u8 ((n:Int) % 256)] = byteCells (bs++[UInt8.ofNat n]):=by
 rw [byteCells_append,← byte_cell]
 rfl
abbrev AppB (w:World) (base:Nat) (v:Value) (n:Nat) (bs:List UInt8) (w':World) (v':Value):Prop:=AppT w base 5 v n (byteCells bs) w' v'
abbrev OwnY (w:World) (base:Nat) (v:Value) (n:Nat) (bs:List UInt8):Prop:=OwnT w base 5 v n (byteCells bs)
set_option maxRecDepth 100000 in
set_option maxHeartbeats 400000 in
theorem put_any (v:Value) (l:Nat) (bs:List UInt8) (n b:Int) (base:Nat) (w:World) (hl:l ≤ 1099511627776) (n0:0 ≤ n) (n1:n < 4294967296)
  (b0:-9223372036854775808 ≤ b) (b1:b ≤ 9223372036854775807) (hown:OwnY w base v l bs) (hbase:base ≤ w.heap.size) :
  Calls Tryz.prog 57 #[v,.int .u32 n,.int .i64 b] w fun e w' => ∃ A c,e = .returned (.slice A (l + cnt b) c)∧AppB w base v (l + cnt b) (bs++putN n.toNat (cnt b)) w' (.slice A (l + cnt b) c):=by
 obtain ⟨m,rfl⟩:=Int.eq_ofNat_of_zero_le n0
 rw [Int.toNat_natCast]
 have HOWN:=Lib.hid hown
 have HBASE:=Lib.hid hbase
 have HCNT:=Lib.hid (count_any b w b0 b1)
 have hc4:=cnt_le b
 clear hown hbase b0 b1
 generalize cnt b = q at *
 go_enter Tryz.func57,Tryz.ntmps57
 go_wp2_with (go_at_call 103;refine HCNT.out.mono ?_;rintro e w' ⟨rfl,rfl⟩)
 go_loopw [0,1,9] (fun vk nk i wr => ∃ k:Nat,k ≤ q∧i = .int .i64 k∧nk = .int .u32 (sh m k:Nat)∧AppB w base v (l + k) (bs++putN m k) wr vk) (fun _ _ i _ => q - (intOf i).toNat)
 case atStart => exact ⟨0,Nat.zero_le _,rfl,rfl,by simpa [putN] using AppT.start HOWN.out⟩
 case round =>
  obtain ⟨k,hk,rfl,rfl,happ⟩:=hrel
  have HAPP:=Lib.hid happ
  clear happ
  have hsl:=sh_le m k
  have HS:Hid (sh m (k + 1) = sh m k / 256):=rfl
  have HP:Hid (putN m (k + 1) = putN m k++[UInt8.ofNat (sh m k)]):=rfl
  generalize sh m k = y at *
  by_cases hkq:k < q
  ·obtain ⟨A,c,rfl⟩:=HAPP.out.form
   go_wp2_with (at_builtin;refine wpList_appT1 _ byteElem rfl (.tmp 11) (.tmp 14) rfl base (.slice A (l + k) c) (l + k) _ rfl HAPP.out.own _ rfl rfl (by simp [Value.oneCell']) (by unfold maxLen;omega) (by omega) (by have:=HAPP.out.grow.size;have:=HBASE.out;omega) ?_;intro A' c' w2 hA;have HA:=Lib.hid hA;clear hA)
   refine ⟨⟨k + 1,by omega,by go_num,by rw [HS.out];go_num,?_⟩,by simp [intOf];omega⟩
   rw [HP.out,← List.append_assoc]
   show AppT w base _ v (l + k + 1) (byteCells (bs++putN m k++[UInt8.ofNat y])) w2 _
   rw [← byteCells_snoc]
   exact HAPP.out.trans HA.out
  ·obtain rfl:k = q:=by omega
   obtain ⟨A,c,rfl⟩:=HAPP.out.form
   go_wp2
   go_ret
   exact ⟨A,c,rfl,HAPP.out⟩
attribute [local go_sem ↓] Go.wp_at_zero Go.wp_at_succ
def Rd (w:World) (g:Nat) (A:Option Addr) (l c:Nat) (p:Int) (bad:Bool):Prop:=w.heap[g]? = some (.cells #[.slice A l c,.int .i64 p,.bool bad] 196 (0,0))
theorem Rd.cells {w:World} {g:Nat} {A:Option Addr} {l c:Nat} {p:Int} {bad:Bool} (h:Rd w g A l c p bad) :
  w.cell? ⟨g,0,none⟩ = some (.slice A l c)∧w.cell? ⟨g,1,none⟩ = some (.int .i64 p)∧w.cell? ⟨g,2,none⟩ = some (.bool bad)∧w.frozen? ⟨g,1,none⟩ = false∧w.frozen? ⟨g,2,none⟩ = false :=
 ⟨cell_of_row w g 0 _ _ _ h,cell_of_row w g 1 _ _ _ h,cell_of_row w g 2 _ _ _ h,frozen_of_row w g 1 _ _ h,frozen_of_row w g 2 _ _ h⟩
theorem Rd.setAt {w:World} {g:Nat} {A:Option Addr} {l c:Nat} {p:Int} {bad:Bool} (h:Rd w g A l c p bad) (q:Int):Rd (w.setCell ⟨g,1,none⟩ (.int .i64 q)) g A l c q bad:=heap_setCell_same w g 1 _ _ _ h
theorem Rd.setBad {w:World} {g:Nat} {A:Option Addr} {l c:Nat} {p:Int} {bad:Bool} (h:Rd w g A l c p bad):Rd (w.setCell ⟨g,2,none⟩ (.bool true)) g A l c p true:=heap_setCell_same w g 2 _ _ _ h
theorem Rd.below {w w':World} {g:Nat} {A:Option Addr} {l c:Nat} {p:Int} {bad:Bool} {B:Nat} (h:Rd w g A l c p bad) (hb:Below B w w') (hg:g < B):Rd w' g A l c p bad:=(hb.block g hg).trans h
theorem Rd.lt {w:World} {g:Nat} {A:Option Addr} {l c:Nat} {p:Int} {bad:Bool} (h:Rd w g A l c p bad):g < w.heap.size:=(Array.getElem?_eq_some_iff.1 h).1
def Only (g:Nat) (w w':World):Prop:=w.grownBy w' (some g)
theorem only_refl (g:Nat) (w:World):Only g w w:=World.grownBy.refl _ _
theorem only_drewN {g:Nat} {w w':World} (h:Only g w w') (n:Nat):Only g w (w'.drewN n):=⟨h.os,h.tape,h.output,h.size,h.block⟩
theorem only_set {g:Nat} {w w':World} (h:Only g w w') (i:Nat) (v:Value):Only g w (w'.setCell ⟨g,i,none⟩ v) :=
 ⟨h.os,h.tape,h.output,by simpa [World.setCell] using h.size,fun k hk hne => (Below.heap_setCell w' _ v k (fun e => hne (by rw [e]))).trans (h.block k hk hne)⟩
theorem only_alloc {g:Nat} {w w':World} (h:Only g w w') (o:Obj):Only g w (w'.alloc o) :=
 ⟨h.os,h.tape,h.output,Nat.le_trans h.size (by simp),fun k hk hne => (Below.heap_alloc w' o k (Nat.lt_of_lt_of_le hk h.size)).trans (h.block k hk hne)⟩
theorem only_below {g B:Nat} {W w w':World} (h:Only g w w') (hb:Below B W w) (hB:B ≤ w.heap.size) (hg:B ≤ g):Below B W w':=hb.grown h hB (fun k hk => by injection hk;omega)
theorem Cells.only {g B:Nat} {w w':World} {A:Option Addr} {xs:List Value} (h:Cells w B A xs) (ho:Only g w w') (hB:B ≤ w.heap.size) (hg:B ≤ g):Cells w' B A xs :=
 h.below (only_below ho (Below.refl B w) hB hg) (Nat.le_refl _)
theorem quiet_left {P:Program} {f:FuncId} {args:Array Value} {w:World} {n:Nat} {v:Value}
  (h:Calls P f args (w.drewN n) fun e w' => e = .returned v∧w.drewN n = w'):Calls P f args (w.drewN n) fun e w'' => e = .returned v∧∃ m,w'' = w.drewN m :=
 h.mono fun _ _ ⟨he,hm⟩ => ⟨he,n,hm.symm⟩
theorem Cells.drewN {w:World} {B:Nat} {A:Option Addr} {xs:List Value} (h:Cells w B A xs) (n:Nat):Cells (w.drewN n) B A xs:=h
theorem Rd.drewN {w:World} {g:Nat} {A:Option Addr} {l c:Nat} {p:Int} {bad:Bool} (h:Rd w g A l c p bad) (n:Nat):Rd (w.drewN n) g A l c p bad:=h
theorem newK_any (A:Option Addr) (l c:Nat) (w:World) :
  Calls Tryz.prog 126 #[.slice A l c] w fun e w' => e = .returned (.pointer (some ⟨w.heap.size,0,none⟩))∧w.alloc (.cells #[.slice A l c,.int .i64 0,.bool false] 196) = w':=by
 go_enter Tryz.func126,Tryz.ntmps126
 go_wp2
 go_ret
 exact ⟨rfl,rfl⟩
theorem rd_new (A:Option Addr) (l c:Nat) (w:World):Rd (w.alloc (.cells #[.slice A l c,.int .i64 0,.bool false] 196)) w.heap.size A l c 0 false:=heap_alloc_new w _
set_option maxHeartbeats 400000 in
theorem ok_any (g:Nat) (A:Option Addr) (l c:Nat) (p:Int) (bad:Bool) (w:World) (h:Rd w g A l c p bad) :
  Calls Tryz.prog 128 #[.pointer (some ⟨g,0,none⟩)] w fun e w' => e = .returned (.bool !bad)∧w = w':=by
 obtain ⟨c0,c1,c2,f1,f2⟩:=h.cells
 clear h
 go_enter Tryz.func128,Tryz.ntmps128
 go_wp2
 go_ret
 exact ⟨rfl,rfl⟩
set_option maxHeartbeats 400000 in
theorem left_any (g:Nat) (A:Option Addr) (l c:Nat) (p:Int) (bad:Bool) (w:World) (h:Rd w g A l c p bad) (hl:l ≤ 9223372036854775807) (h0:0 ≤ p) (h1:p ≤ l) :
  Calls Tryz.prog 129 #[.pointer (some ⟨g,0,none⟩)] w fun e w' => e = .returned (.int .i64 (l - p))∧∃ n,w' = w.drewN n:=by
 obtain ⟨c0,c1,c2,f1,f2⟩:=h.cells
 clear h
 have hw:IntKind.i64.wrap ((l:Int) - p) = l - p:=IntWalk.i64_in _ (by omega)
 go_enter Tryz.func129,Tryz.ntmps129
 go_wp2
 go_quiet (fail)
 go_wp2
 go_ret
 exact ⟨rfl,_,rfl⟩
set_option maxHeartbeats 400000 in
theorem seek_any (g:Nat) (A:Option Addr) (l c:Nat) (p a:Int) (w:World) (h:Rd w g A l c p false) (h0:0 ≤ a) (h1:a ≤ l) :
  Calls Tryz.prog 130 #[.pointer (some ⟨g,0,none⟩),.int .i64 a] w fun e w' => e = .returned (.tuple #[])∧Rd w' g A l c a false∧Only g w w':=by
 have H:=Lib.hid h
 obtain ⟨c0,c1,c2,f1,f2⟩:=h.cells
 clear h
 go_enter Tryz.func130,Tryz.ntmps130
 go_wp2
 go_end0
 exact ⟨rfl,H.out.setAt a,only_set (only_refl _ _) _ _⟩
theorem number_bad (g:Nat) (A:Option Addr) (l c:Nat) (p b:Int) (w:World) (h:Rd w g A l c p true) :
  Calls Tryz.prog 88 #[.pointer (some ⟨g,0,none⟩),.int .i64 b] w fun e w' => e = .returned (.int .u32 0)∧w = w':=by
 have HOK:=Lib.hid (ok_any g A l c p true w h)
 clear h
 go_enter Tryz.func88,Tryz.ntmps88
 go_wp2_with (go_at_call 128;refine HOK.out.mono ?_;rintro e w' ⟨rfl,rfl⟩)
 go_ret
 exact ⟨rfl,rfl⟩
theorem bytes_bad (g:Nat) (A:Option Addr) (l c:Nat) (p b:Int) (w:World) (h:Rd w g A l c p true) :
  Calls Tryz.prog 89 #[.pointer (some ⟨g,0,none⟩),.int .i64 b] w fun e w' => e = .returned (.slice none 0 0)∧w = w':=by
 have HOK:=Lib.hid (ok_any g A l c p true w h)
 clear h
 go_enter Tryz.func89,Tryz.ntmps89
 go_wp2_with (go_at_call 128;refine HOK.out.mono ?_;rintro e w' ⟨rfl,rfl⟩)
 go_ret
 exact ⟨rfl,rfl⟩
set_option maxRecDepth 100000 in
set_option maxHeartbeats 1000000 in
theorem number_any (g:Nat) (A:Option Addr) (l c:Nat) (bs:List UInt8) (B:Nat) (p b:Int) (x:Nat) (w:World) (h:Rd w g A l c p false) (hl:bs.length = l) (hm:l ≤ 1099511627776)
  (p0:0 ≤ p) (p1:p ≤ l) (b0:-9223372036854775808 ≤ b) (b1:b ≤ 9223372036854775807) (hb:Bytes w B A bs) (hx:getN bs p (cnt b) = some x) :
  Calls Tryz.prog 88 #[.pointer (some ⟨g,0,none⟩),.int .i64 b] w fun e w' => e = .returned (.int .u32 (x:Int))∧Rd w' g A l c (p + (cnt b:Nat)) false∧Only g w w':=by
 have H:=Lib.hid h
 have HOK:=Lib.hid (ok_any g A l c p false w h)
 have HGET:=Lib.hid (fun n => get_any A l c bs B p b (w.drewN n) hl (by omega) (by omega) (by omega) b0 b1 (hb.drewN n))
 have HCNT:=Lib.hid (fun W => count_any b W b0 b1)
 have hc4:=cnt_le b
 obtain ⟨c0,c1,c2,f1,f2⟩:=h.cells
 simp only [hx,orZero] at HGET
 clear h hx hl hb b0 b1
 generalize cnt b = q at *
 have hw:IntKind.i64.wrap (p + (q:Int)) = p + q:=IntWalk.i64_in _ (by omega)
 go_enter Tryz.func88,Tryz.ntmps88
 go_wp2_with (go_at_call 128;refine HOK.out.mono ?_;rintro e w' ⟨rfl,rfl⟩)
 go_quiet ((go_at_call 131;exact quiet_left (HGET.out _)))
 have H1:=Lib.hid (H.out.drewN nq)
 have HO:=Lib.hid (only_drewN (only_refl g w) nq)
 obtain ⟨c0,c1,c2,f1,f2⟩:=H1.out.cells
 generalize w.drewN nq = w1 at *
 go_wp2
 go_region_with (go_at_call 103;refine (HCNT.out _).mono ?_;rintro e w' ⟨rfl,rfl⟩)
 all_goals
  go_wp2
  go_ret
  exact ⟨rfl,(H1.out.drewN 1).setAt _,only_set (only_drewN HO.out 1) _ _⟩
end Go.Proofs.YtaknladkodibaaaGreatDoor
namespace Go.Proofs.YtaknladkodibaaaGreatDoor
open Go.RowKit CrcP FieldP
theorem sumN_lt (bs:List UInt8):sumN bs < 4294967296:=Nat.xor_lt_two_pow (n:=32) (goN_lt bs (by omega)) (by omega)
def sealed (bs:List UInt8):List UInt8:=bs++putN (sumN bs) 4
theorem sealed_length (bs:List UInt8):(sealed bs).length = bs.length + 4:=by unfold sealed;rw [List.length_append,putN_length]
theorem cnt4:cnt 4 = 4:=rfl
set_option maxHeartbeats 1000000 in
theorem close_any (g:Nat) (v:Value) (l:Nat) (bs:List UInt8) (base:Nat) (w:World) (hl:l ≤ 1099511627776) (hown:OwnY w base v l bs) (hbase:base ≤ w.heap.size) (hT:Table w g) :
  Calls Tryz.prog 58 #[.pointer (some ⟨g,0,none⟩),v] w fun e w' => ∃ A c,e = .returned (.slice A (l + 4) c)∧AppB w base v (l + 4) (sealed bs) w' (.slice A (l + 4) c):=by
 obtain ⟨A,c,rfl⟩:=hown.form
 have hlen:bs.length = l:=by have:=hown.1;rwa [byteCells_length] at this
 have HS:=Lib.hid (sum_any g A l c bs w.heap.size w hlen (by omega) hT hown.cells)
 have hlt:=sumN_lt bs
 have HP:=Lib.hid (put_any (.slice A l c) l bs (sumN bs:Nat) 4 base w hl (by omega) (by omega) (by omega) (by omega) hown hbase)
 rw [Int.toNat_natCast,cnt4] at HP
 have HD:Hid (sealed bs = bs++putN (sumN bs) 4):=rfl
 clear hown hT hlen
 generalize sumN bs = s at *
 go_enter Tryz.func58,Tryz.ntmps58
 go_wp2_with fail
 refine HS.out.mono ?_
 rintro e w' ⟨rfl,rfl⟩
 go_wp2_with fail
 refine HP.out.mono ?_
 rintro e w2 ⟨A2,c2,rfl,happ⟩
 have HA:=Lib.hid happ
 clear happ
 go_wp2
 go_ret
 exact ⟨A2,c2,rfl,by rw [HD.out];exact HA.out⟩
end Go.Proofs.YtaknladkodibaaaGreatDoor
namespace Go.Proofs.YtaknladkodibaaaGreatDoor
open Go.RowKit FieldP
end Go.Proofs.YtaknladkodibaaaGreatDoor
namespace Go.Proofs.YtaknladkodibaaaGreatDoor
open Go.RowKit CrcP FieldP
def threeB (s:List UInt8) (a b c:Nat):List UInt8:=sealed (s++putN a 4++putN b 4++putN c 4)
set_option maxRecDepth 100000 in
set_option maxHeartbeats 1000000 in
theorem putThree_any (g:Nat) (s:ByteArray) (a b c:Nat) (w:World) (hs:s.size ≤ 1000) (ha:a < 4294967296) (hb:b < 4294967296) (hc:c < 4294967296) (hT:Table w g) :
  Calls Tryz.prog 82 #[.pointer (some ⟨g,0,none⟩),.string s,.agg #[.int .u32 (a:Int),.int .u32 (b:Int),.int .u32 (c:Int)]] w fun e w' =>
   ∃ A k,e = .returned (.slice A (s.size + 16) k)∧OwnY w' w.heap.size (.slice A (s.size + 16) k) (s.size + 16) (threeB s.data.toList a b c)∧Below w.heap.size w w':=by
 have HT:Hid (Table w g):=hT
 have htl:=hT.lt
 clear hT
 have HT1:=Lib.hid (HT.out.alloc (.cells #[.int .u32 (a:Int),.int .u32 (b:Int),.int .u32 (c:Int)] 133))
 have HB1:=Lib.hid (((Below.refl w.heap.size w).alloc (Nat.le_refl _) (.cells #[.int .u32 (a:Int),.int .u32 (b:Int),.int .u32 (c:Int)] 133)))
 obtain ⟨A0,c0,w1,hcv,how,hbw⟩:=run_text (P:=Tryz.prog) (w.alloc (.cells #[.int .u32 (a:Int),.int .u32 (b:Int),.int .u32 (c:Int)] 133)) w.heap.size s Tryz.underlying9 Tryz.underlying25 Tryz.underlying5 (by unfold maxLen;omega) (by simp)
 have h0:w1.cell? ⟨w.heap.size,0,none⟩ = some (.int .u32 (a:Int)):=(hbw.cell (p:=⟨w.heap.size,0,none⟩) (by simp)).trans (by rw [cell_of_row _ _ _ _ _ _ (heap_alloc_new w _)];rfl)
 have h1:w1.cell? ⟨w.heap.size,1,none⟩ = some (.int .u32 (b:Int)):=(hbw.cell (p:=⟨w.heap.size,1,none⟩) (by simp)).trans (by rw [cell_of_row _ _ _ _ _ _ (heap_alloc_new w _)];rfl)
 have h2:w1.cell? ⟨w.heap.size,2,none⟩ = some (.int .u32 (c:Int)):=(hbw.cell (p:=⟨w.heap.size,2,none⟩) (by simp)).trans (by rw [cell_of_row _ _ _ _ _ _ (heap_alloc_new w _)];rfl)
 have HOW:=Lib.hid how
 have HT2:=Lib.hid (HT1.out.below hbw (by simp;omega))
 have HB2:=Lib.hid (HB1.out.trans (hbw.mono (by simp)))
 clear how hbw HT1 HB1
 go_enter Tryz.func82,Tryz.ntmps82
 go_wp2
 clear hcv h0 h1 h2
 go_loopw [7,13] (fun vb i wr => ∃ k:Nat,k ≤ 3∧i = .int .i64 k∧OwnY wr w.heap.size vb (s.size + 4 * k) (s.data.toList++flat 4 ([a,b,c].take k))∧Below w.heap.size w wr) (fun _ i _ => 3 - (intOf i).toNat)
 case atStart => exact ⟨0,by omega,rfl,by simpa [flat] using HOW.out,HB2.out⟩
 case round =>
  obtain ⟨k,hk,rfl,hown,hbel⟩:=hrel
  have HOWN:=Lib.hid hown
  have HBEL:=Lib.hid hbel
  clear hown hbel
  obtain ⟨Ak,ck,rfl⟩:=HOWN.out.form
  have step:∀ (x:Nat),x < 4294967296→flat 4 ([a,b,c].take (k + 1)) = flat 4 ([a,b,c].take k)++putN x 4→Calls Tryz.prog 57 #[.slice Ak (s.size + 4 * k) ck,.int .u32 (x:Int),.int .i64 4] wr fun e w' => ∃ A c',e = .returned (.slice A (s.size + 4 * (k + 1)) c')∧OwnY w' w.heap.size (.slice A (s.size + 4 * (k + 1)) c') (s.size + 4 * (k + 1)) (s.data.toList++flat 4 ([a,b,c].take (k + 1)))∧Below w.heap.size w w':=by
   intro x hx hf
   refine (put_any (.slice Ak (s.size + 4 * k) ck) (s.size + 4 * k) _ (x:Int) 4 w.heap.size wr (by omega) (by omega) (by omega) (by omega) (by omega) HOWN.out HBEL.out.size).mono ?_
   rintro e w' ⟨A,c',rfl,happ⟩
   refine ⟨A,c',rfl,?_,happ.below HBEL.out HBEL.out.size (fun k hk => (HOWN.out.lt k hk).1)⟩
   have:=happ.own
   rw [Int.toNat_natCast,cnt4,List.append_assoc,← hf] at this
   exact this
  have HST:=Lib.hid step
  clear step
  by_cases hk3:k < 3
  ·have hk4:k = 0 ∨ k = 1 ∨ k = 2:=by omega
   rcases hk4 with rfl | rfl | rfl
   ·have hix:∀ w,(Instr.index 133 (.agg #[.int .u32 (a:Int),.int .u32 (b:Int),.int .u32 (c:Int)]) (.int .i64 0)).run Tryz.prog w = .ok (.int .u32 (a:Int)) w:=fun _ => by kernel_rfl
    go_wp2_with (refine (HST.out a ha rfl).mono ?_;rintro e w2 ⟨A2,c2,rfl,hown,hbel⟩;have HO2:=Lib.hid hown;have HB2':=Lib.hid hbel;clear hown hbel)
    exact ⟨⟨1,by omega,rfl,HO2.out,HB2'.out⟩,by simp [intOf]⟩
   ·have hix:∀ w,(Instr.index 133 (.agg #[.int .u32 (a:Int),.int .u32 (b:Int),.int .u32 (c:Int)]) (.int .i64 1)).run Tryz.prog w = .ok (.int .u32 (b:Int)) w:=fun _ => by kernel_rfl
    go_wp2_with (refine (HST.out b hb rfl).mono ?_;rintro e w2 ⟨A2,c2,rfl,hown,hbel⟩;have HO2:=Lib.hid hown;have HB2':=Lib.hid hbel;clear hown hbel)
    exact ⟨⟨2,by omega,rfl,HO2.out,HB2'.out⟩,by simp [intOf]⟩
   ·have hix:∀ w,(Instr.index 133 (.agg #[.int .u32 (a:Int),.int .u32 (b:Int),.int .u32 (c:Int)]) (.int .i64 2)).run Tryz.prog w = .ok (.int .u32 (c:Int)) w:=fun _ => by kernel_rfl
    go_wp2_with (refine (HST.out c hc rfl).mono ?_;rintro e w2 ⟨A2,c2,rfl,hown,hbel⟩;have HO2:=Lib.hid hown;have HB2':=Lib.hid hbel;clear hown hbel)
    exact ⟨⟨3,by omega,rfl,HO2.out,HB2'.out⟩,by simp [intOf]⟩
  ·obtain rfl:k = 3:=by omega
   clear HST
   have HF:Hid (s.data.toList++flat 4 ([a,b,c].take 3) = s.data.toList++putN a 4++putN b 4++putN c 4):=by show _ = _;simp [flat]
   have HCL:=Lib.hid (close_any g (.slice Ak (s.size + 4 * 3) ck) (s.size + 4 * 3) _ w.heap.size wr (by omega) HOWN.out HBEL.out.size (HT.out.below HBEL.out htl))
   go_wp2_with (refine HCL.out.mono ?_;rintro e w2 ⟨A2,c2,rfl,happ⟩;have HA:=Lib.hid happ;clear happ)
   go_ret
   refine ⟨A2,c2,rfl,?_,HA.out.below HBEL.out HBEL.out.size (fun k hk => (HOWN.out.lt k hk).1)⟩
   have:=HA.out.own
   rw [HF.out] at this
   exact this
end Go.Proofs.YtaknladkodibaaaGreatDoor
namespace Go.Proofs.YtaknladkodibaaaGreatDoor
open Go.RowKit FieldP
end Go.Proofs.YtaknladkodibaaaGreatDoor
namespace Go.Proofs.YtaknladkodibaaaGreatDoor
open Go.RowKit CrcP FieldP
end Go.Proofs.YtaknladkodibaaaGreatDoor
