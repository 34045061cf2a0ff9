/- The reader of layer 2 over any bytes, by its state: its place, and whether it isn't fine. -/
import Derived.Test.YtaknladkodibaaaGreatDoorMgQ33818
import Derived.Test.YtaknladkodibaaaGreatDoorMgQ33809
import Derived.StillTailTactics
namespace Go.Proofs.YtaknladkodibaaaGreatDoor
open Go.RowKit FieldP
attribute [local go_sem ↓] Go.wp_at_zero Go.wp_at_succ
structure RSt where
 p:Nat
 bad:Bool
def RSt.num (bs:List UInt8) (s:RSt) (k:Nat):Nat × RSt :=
 if s.bad = true then (0,s) else if s.p + k ≤ bs.length then (val ((bs.drop s.p).take k),⟨s.p + k,false⟩) else (0,⟨s.p,true⟩)
def RSt.row (bs:List UInt8) (s:RSt) (n:Nat):List UInt8 × RSt :=
 if s.bad = true then ([],s) else if s.p + n ≤ bs.length then ((bs.drop s.p).take n,⟨s.p + n,false⟩) else ([],⟨s.p,true⟩)
theorem num_le {bs:List UInt8} {s:RSt} {k:Nat} (h:s.p ≤ bs.length):(s.num bs k).2.p ≤ bs.length:=by
 unfold RSt.num
 split
 ·exact h
 ·split
  ·assumption
  ·exact h
theorem row_le {bs:List UInt8} {s:RSt} {k:Nat} (h:s.p ≤ bs.length):(s.row bs k).2.p ≤ bs.length:=by
 unfold RSt.row
 split
 ·exact h
 ·split
  ·assumption
  ·exact h
theorem num_lt {bs:List UInt8} {s:RSt} {k:Nat} (hk:k ≤ 4):(s.num bs k).1 < 4294967296:=by
 unfold RSt.num
 split
 ·omega
 ·split
  ·exact val_lt4 (by rw [List.length_take];omega)
  ·omega
def RdK (w:World) (g:Nat) (A:Option Addr) (l c:Nat) (s:RSt):Prop:=Rd w g A l c (s.p:Int) s.bad
theorem RdK.lt {w:World} {g:Nat} {A:Option Addr} {l c:Nat} {s:RSt} (h:RdK w g A l c s):g < w.heap.size:=Rd.lt h
theorem number_short (g:Nat) (A:Option Addr) (l c:Nat) (bs:List UInt8) (B:Nat) (p b:Int) (w:World) (h:Rd w g A l c p false) (hl:bs.length = l) (hm:l ≤ 1099511627776)
  (p0:0 ≤ p) (p1:p ≤ l) (b0:-9223372036854775808 ≤ b) (b1:b ≤ 9223372036854775807) (hb:Bytes w B A bs) (hx:getN bs p (cnt b) = none) :
  Calls Tryz.prog 88 #[.pointer (some ⟨g,0,none⟩),.int .i64 b] w fun e w' => e = .returned (.int .u32 0)∧Rd w' g A l c p true∧Only g w w':=by
 have H:=Lib.hid h
 have HOK:=Lib.hid (ok_any g A l c p false w h)
 have HGET:=Lib.hid (fun n => get_any A l c bs B p b (w.drewN n) hl (by omega) (by omega) (by omega) b0 b1 (hb.drewN n))
 obtain ⟨c0,c1,c2,f1,f2⟩:=h.cells
 simp only [hx,orZero] at HGET
 clear h hx hl hb b0 b1
 go_enter Tryz.func88,Tryz.ntmps88
 go_wp2_with (go_at_call 128;refine HOK.out.mono ?_;rintro e w' ⟨rfl,rfl⟩)
 go_quiet ((go_at_call 131;exact quiet_left (HGET.out _)))
 have H1:=Lib.hid (H.out.drewN nq)
 have HO:=Lib.hid (only_drewN (only_refl g w) nq)
 obtain ⟨c0,c1,c2,f1,f2⟩:=H1.out.cells
 generalize w.drewN nq = w1 at *
 go_wp2
 go_ret
 exact ⟨rfl,H1.out.setBad,only_set HO.out _ _⟩
theorem number_st (g:Nat) (A:Option Addr) (l c:Nat) (bs:List UInt8) (B:Nat) (s:RSt) (b:Int) (k:Nat) (w:World) (h:RdK w g A l c s) (hl:bs.length = l) (hm:l ≤ 1099511627776)
  (hp:s.p ≤ l) (b0:-9223372036854775808 ≤ b) (b1:b ≤ 9223372036854775807) (hk:cnt b = k) (hb:Bytes w B A bs) :
  Calls Tryz.prog 88 #[.pointer (some ⟨g,0,none⟩),.int .i64 b] w fun e w' => e = .returned (.int .u32 ((s.num bs k).1:Nat))∧RdK w' g A l c (s.num bs k).2∧Only g w w':=by
 subst hk
 obtain ⟨p,bad⟩:=s
 cases bad with
 | true => exact (number_bad g A l c p b w h).mono fun e w' ⟨he,hw⟩ => ⟨he,by subst hw;exact h,by subst hw;exact only_refl g w⟩
 | false =>
  by_cases hf:p + cnt b ≤ bs.length
  ·have hx:=getN_some (bs:=bs) (a:=p) (k:=cnt b) hf
   refine (number_any g A l c bs B p b _ w h hl hm (by omega) (by have:p ≤ l:=hp;omega) b0 b1 hb hx).mono fun e w' ⟨he,hr,ho⟩ => ?_
   have hn:RSt.num bs ⟨p,false⟩ (cnt b) = (val ((bs.drop p).take (cnt b)),⟨p + cnt b,false⟩):=by simp [RSt.num,hf]
   rw [hn]
   exact ⟨he,hr,ho⟩
  ·have hx:getN bs p (cnt b) = none:=by unfold getN;rw [if_neg (by omega)]
   refine (number_short g A l c bs B p b w h hl hm (by omega) (by have:p ≤ l:=hp;omega) b0 b1 hb hx).mono fun e w' ⟨he,hr,ho⟩ => ?_
   have hn:RSt.num bs ⟨p,false⟩ (cnt b) = (0,⟨p,true⟩):=by simp [RSt.num,hf]
   rw [hn]
   exact ⟨he,hr,ho⟩
theorem byteSize:(Tryz.prog.info? 5).map (·.size) = some 1:=by kernel_rfl
theorem byteInfo:(Tryz.prog.info? 5).map (fun i => (i.zero,i.size,i.bytes)) = some (some (.int .u8 0),1,1):=by kernel_rfl
theorem make_bytes (n:Nat) (hn:n ≤ 281474976710656) (W:World) :
  (Instr.makeSlice 25 (.int .i64 (n:Int)) (.int .i64 (n:Int))).run Tryz.prog W = .ok (.slice (some ⟨W.heap.size,0,none⟩) n n) (W.alloc (.cells (madeCells #[.int .u8 0] n) 5)):=by
 obtain ⟨i0,hi,hz0,hz1,hz2⟩:=info_parts byteInfo
 have h:=run_make (P:=Tryz.prog) W 25 5 i0 (.int .u8 0) Tryz.underlying25 hi hz0 .i64 .i64 n n (by omega) (Int.le_refl _) (by rw [hz2];omega) (by omega)
 simp only [Int.toNat_natCast,hz1,Nat.mul_one] at h
 exact h
theorem own_made (w:World) (base n:Nat) (hb:base ≤ w.heap.size) (hm:n ≤ maxLen):OwnB (w.alloc (.cells (madeCells #[Value.int .u8 0] n) 5)) base 5 (.slice (some ⟨w.heap.size,0,none⟩) n n) n (List.replicate n 0):=by
 refine own_of_row (cur:=byteCells (List.replicate n 0)) ?_ hb (Nat.le_refl _) hm (by simp [byteCells]) (List.take_of_length_le (by simp [byteCells]))
 have e:madeCells #[Value.int .u8 0] n = (byteCells (List.replicate n 0)).toArray:=by
  apply Array.toList_inj.1
  rw [toList_madeCells_one]
  simp [byteCells]
 rw [e]
 exact heap_alloc_new w _
theorem only_mod {g:Nat} {S:Nat→Prop} {w w1 w2:World} (h:Only g w w1) (hm:Mod S w1 w2) (hS:∀ k,S k→w.heap.size ≤ k):Only g w w2 :=
 ⟨hm.os.trans h.os,hm.tape.trans h.tape,hm.output.trans h.output,Nat.le_trans h.size hm.size,fun k hk hne => (hm.block k (Nat.lt_of_lt_of_le hk h.size) (fun hs => by have:=hS k hs;omega)).trans (h.block k hk hne)⟩
theorem only_drew {g:Nat} {w w':World} (h:Only g w w'):Only g w w'.drew:=⟨h.os,h.tape,h.output,h.size,h.block⟩
theorem splice_all {α:Type} {L X:List α} (h:L.length = X.length):splice L 0 X = X:=by
 unfold splice
 rw [List.drop_of_length_le (by omega)]
 simp
theorem bytes_short (g:Nat) (A:Option Addr) (l c:Nat) (p n:Int) (w:World) (h:Rd w g A l c p false) (hm:l ≤ 1099511627776) (p0:0 ≤ p) (p1:p ≤ l) (hn:(l:Int) - p < n) :
  Calls Tryz.prog 89 #[.pointer (some ⟨g,0,none⟩),.int .i64 n] w fun e w' => e = .returned (.slice none 0 0)∧Rd w' g A l c p true∧Only g w w':=by
 have H:=Lib.hid h
 have HOK:=Lib.hid (ok_any g A l c p false w h)
 have HLF:=Lib.hid (left_any g A l c p false w h (by omega) p0 p1)
 have hn0:decide (n < 0) = false:=by simp;omega
 clear h
 go_enter Tryz.func89,Tryz.ntmps89
 go_wp2_with (first | (go_at_call 128;refine HOK.out.mono ?_;rintro e w' ⟨rfl,rfl⟩) | (go_at_call 129;refine HLF.out.mono ?_;rintro e w' ⟨rfl,nq,rfl⟩;obtain ⟨c0,c1,c2,f1,f2⟩:=(H.out.drewN nq).cells))
 go_ret
 exact ⟨rfl,(H.out.drewN nq).setBad,only_set (only_drewN (only_refl g w) nq) _ _⟩
set_option maxRecDepth 100000 in
set_option maxHeartbeats 1000000 in
theorem bytes_any (g:Nat) (A:Option Addr) (l c:Nat) (bs:List UInt8) (B:Nat) (p n:Nat) (w:World) (h:Rd w g A l c (p:Int) false) (hl:bs.length = l) (hm:l ≤ 1099511627776) (hlc:l ≤ c) (hp:p + n ≤ l) (hb:Bytes w B A bs) (hB:B ≤ w.heap.size) :
  Calls Tryz.prog 89 #[.pointer (some ⟨g,0,none⟩),.int .i64 (n:Int)] w fun e w' => ∃ A' k,e = .returned (.slice A' n k)∧OwnB w' w.heap.size 5 (.slice A' n k) n ((bs.drop p).take n)∧Rd w' g A l c ((p:Int) + n) false∧Only g w w':=by
 have H:=Lib.hid h
 have HOK:=Lib.hid (ok_any g A l c p false w h)
 have HLF:=Lib.hid (left_any g A l c p false w h (by omega) (by omega) (by omega))
 have hn0:decide ((n:Int) < 0) = false:=by simp
 have hn1:decide ((l:Int) - (p:Int) < (n:Int)) = false:=by simp;omega
 have hgl:=h.lt
 have hmk:=make_bytes n (by omega)
 have HB:Hid (Bytes w B A bs):=hb
 have HL:=Lib.hid hl
 clear h hb hl
 go_enter Tryz.func89,Tryz.ntmps89
 go_wp2_with (first | (go_at_call 128;refine HOK.out.mono ?_;rintro e w' ⟨rfl,rfl⟩) | (go_at_call 129;refine HLF.out.mono ?_;rintro e w' ⟨rfl,nq,rfl⟩))
 have HM:=Lib.hid (own_made (w.drewN nq) w.heap.size n (Nat.le_refl _) (by unfold maxLen;omega))
 have H1:Hid (Rd ((w.drewN nq).alloc (.cells (madeCells #[.int .u8 0] n) 5)) g A l c (p:Int) false):=(H.out.drewN nq).below ((Below.refl _ _).alloc (Nat.le_refl _) _) hgl
 have HBS:=Lib.hid ((HB.out.drewN nq).alloc hB (.cells (madeCells #[.int .u8 0] n) 5))
 have HO1:=Lib.hid (only_alloc (only_drewN (only_refl g w) nq) (.cells (madeCells #[.int .u8 0] n) 5))
 have HZ:Hid (((w.drewN nq).alloc (.cells (madeCells #[.int .u8 0] n) 5)).heap.size = w.heap.size + 1):=by show _ = _;simp
 generalize hw1:(w.drewN nq).alloc (.cells (madeCells #[.int .u8 0] n) 5) = w1 at *
 obtain ⟨c0,c1,c2,f1,f2⟩:=H1.out.cells
 clear hmk hw1 H HOK HLF
 have HN:Hid ((byteCells ((bs.drop p).take n)).length = Nat.min (l - p) n):=by
  show _ = min (l - p) n
  rw [byteCells_length,List.length_take,List.length_drop,HL.out]
  omega
 have HTL:Hid (byteCells ((bs.drop p).take n) = (byteCells (bs.drop p)).take (byteCells ((bs.drop p).take n)).length):=by
  show _ = _
  rw [byteCells_length,List.length_take,List.length_drop,HL.out,show min n (l - p) = n by omega]
  unfold byteCells
  rw [← List.map_take]
 have HSP:Hid (splice (byteCells (List.replicate n 0)) 0 (byteCells ((bs.drop p).take n)) = byteCells ((bs.drop p).take n)) :=
  splice_all (by rw [HN.out,byteCells_length,List.length_replicate];show n = min (l - p) n;omega)
 have HFIT:Hid (0 + (byteCells ((bs.drop p).take n)).length ≤ n):=by show _ ≤ _;rw [HN.out];show 0 + min (l - p) n ≤ n;omega
 by_cases hl0:l = 0
 ·subst hl0
  obtain rfl:p = 0:=by omega
  obtain rfl:n = 0:=by omega
  have hc0:0 ≤ c:=by omega
  cases A with
  | none =>
   go_still_tail 10,(by kernel_rfl)
   repeat still_step
   change wpList _ _ _ _ _ w1.drew
   refine wpList_copy_into w1.drew rfl (.tmp 22) (.tmp 31) 25 25 rfl HM.out.drew Tryz.underlying25 byteSize _ _ _ _ _ _ rfl rfl 0 (byteCells ((bs.drop 0).take 0)) rfl (fun _ => ⟨w.heap.size,rfl,rfl⟩) B [] (Cells.nil _ _ _) rfl (Nat.le_refl _) (byteCells_one _) ?_
   intro w2 hown hmod
   rw [HSP.out] at hown
   have HO2:=Lib.hid hown
   have HM2:=Lib.hid hmod
   clear hown hmod
   have hne:¬ ownS (Value.slice (some ⟨(w.drewN nq).heap.size,0,none⟩) 0 0) g:=by simp [ownS,Value.ownBlock];omega
   have HR2:Hid (Rd w2 g none 0 c ((0:Nat):Int) false):=HM2.out.keep (w:=w1.drew) H1.out hne
   have HNE:=Lib.hid hne
   have HON:=Lib.hid (only_mod (only_drew HO1.out) HM2.out (fun k hk => by simp [ownS,Value.ownBlock] at hk;omega))
   clear c0 c1 c2 f1 f2 hne
   obtain ⟨c0,c1,c2,f1,f2⟩:=HR2.out.cells
   go_wp2
   go_ret
   refine ⟨_,_,rfl,?_,HR2.out.setAt _,only_set HON.out _ _⟩
   refine own_keep HO2.out ((Mod.refl (oneB g) w2).set ⟨g,1,none⟩ _ (.inl rfl)) (fun k hk hg => ?_)
   unfold oneB at hg
   subst hg
   exact HNE.out hk
  | some ad =>
   go_still_tail 10,(by kernel_rfl)
   repeat still_step
   change wpList _ _ _ _ _ w1.drew
   refine wpList_copy_into w1.drew rfl (.tmp 22) (.tmp 31) 25 25 rfl HM.out.drew Tryz.underlying25 byteSize _ _ _ _ _ _ rfl rfl 0 (byteCells ((bs.drop 0).take 0)) rfl (fun _ => ⟨w.heap.size,rfl,rfl⟩) B [] (Cells.nil _ _ _) rfl (Nat.le_refl _) (byteCells_one _) ?_
   intro w2 hown hmod
   rw [HSP.out] at hown
   have HO2:=Lib.hid hown
   have HM2:=Lib.hid hmod
   clear hown hmod
   have hne:¬ ownS (Value.slice (some ⟨(w.drewN nq).heap.size,0,none⟩) 0 0) g:=by simp [ownS,Value.ownBlock];omega
   have HR2:Hid (Rd w2 g (some ad) 0 c ((0:Nat):Int) false):=HM2.out.keep (w:=w1.drew) H1.out hne
   have HNE:=Lib.hid hne
   have HON:=Lib.hid (only_mod (only_drew HO1.out) HM2.out (fun k hk => by simp [ownS,Value.ownBlock] at hk;omega))
   clear c0 c1 c2 f1 f2 hne
   obtain ⟨c0,c1,c2,f1,f2⟩:=HR2.out.cells
   go_wp2
   go_ret
   refine ⟨_,_,rfl,?_,HR2.out.setAt _,only_set HON.out _ _⟩
   refine own_keep HO2.out ((Mod.refl (oneB g) w2).set ⟨g,1,none⟩ _ (.inl rfl)) (fun k hk hg => ?_)
   unfold oneB at hg
   subst hg
   exact HNE.out hk
 ·obtain ⟨b,o,rfl,hbB,hcell⟩:=HBS.out (by rw [byteCells_length,HL.out];omega)
  have HCELL:=Lib.hid hcell
  clear hcell
  have hpl:p ≤ l:=by omega
  have hpc:p ≤ c:=by omega
  go_still_tail 10,(by kernel_rfl)
  repeat still_step
  change wpList _ _ _ _ _ w1.drew
  refine wpList_copy_into w1.drew rfl (.tmp 22) (.tmp 31) 25 25 rfl HM.out.drew Tryz.underlying25 byteSize _ _ _ _ _ _ rfl rfl 0 (byteCells ((bs.drop p).take n)) HN.out (fun _ => ⟨w.heap.size,rfl,rfl⟩) w1.heap.size (byteCells (bs.drop p)) ?_ HTL.out HFIT.out (byteCells_one _) ?_
  ·by_cases hcq:c = p
   ·rw [if_pos hcq,List.drop_of_length_le (by rw [HL.out];omega)]
    exact Cells.nil _ _ _
   ·rw [if_neg hcq]
    refine fun _ => ⟨b,o + p,rfl,by have:=HZ.out;omega,fun j u hu => ?_⟩
    have:=HCELL.out (p + j) u (by rw [← hu];simp [byteCells,List.getElem?_drop])
    rw [← Nat.add_assoc] at this
    exact this
  intro w2 hown hmod
  generalize (if c = p then some (⟨b,o,none⟩:Addr) else some ⟨b,o + p,none⟩) = PA
  rw [HSP.out] at hown
  have HO2:=Lib.hid hown
  have HM2:=Lib.hid hmod
  clear hown hmod
  have hne:¬ ownS (Value.slice (some ⟨(w.drewN nq).heap.size,0,none⟩) n n) g:=by simp [ownS,Value.ownBlock];omega
  have HR2:Hid (Rd w2 g (some ⟨b,o,none⟩) l c (p:Int) false):=HM2.out.keep (w:=w1.drew) H1.out hne
  have HNE:=Lib.hid hne
  have HON:=Lib.hid (only_mod (only_drew HO1.out) HM2.out (fun k hk => by simp [ownS,Value.ownBlock] at hk;omega))
  clear c0 c1 c2 f1 f2 hne
  obtain ⟨c0,c1,c2,f1,f2⟩:=HR2.out.cells
  go_wp2
  all_goals
   go_ret
   refine ⟨_,_,rfl,?_,HR2.out.setAt _,only_set HON.out _ _⟩
   refine own_keep HO2.out ((Mod.refl (oneB g) w2).set ⟨g,1,none⟩ _ (.inl rfl)) (fun k hk hg => ?_)
   unfold oneB at hg
   subst hg
   exact HNE.out hk
theorem bytes_st (g:Nat) (A:Option Addr) (l c:Nat) (bs:List UInt8) (B:Nat) (s:RSt) (n:Nat) (w:World) (h:RdK w g A l c s) (hl:bs.length = l) (hm:l ≤ 1099511627776) (hlc:l ≤ c)
  (hp:s.p ≤ l) (hb:Bytes w B A bs) (hB:B ≤ w.heap.size) :
  Calls Tryz.prog 89 #[.pointer (some ⟨g,0,none⟩),.int .i64 (n:Int)] w fun e w' => ∃ A' m k,e = .returned (.slice A' m k)∧OwnB w' w.heap.size 5 (.slice A' m k) m (s.row bs n).1∧RdK w' g A l c (s.row bs n).2∧Only g w w':=by
 obtain ⟨p,bad⟩:=s
 cases bad with
 | true => exact (bytes_bad g A l c p n w h).mono fun e w' ⟨he,hw⟩ => ⟨none,0,0,he,by subst hw;exact World.ownsRow_nil _ _ _ _,by subst hw;exact h,by subst hw;exact only_refl g w⟩
 | false =>
  by_cases hf:p + n ≤ bs.length
  ·refine (bytes_any g A l c bs B p n w h hl hm hlc (by omega) hb hB).mono fun e w' ⟨A',k,he,ho,hr,hon⟩ => ?_
   have hn:RSt.row bs ⟨p,false⟩ n = ((bs.drop p).take n,⟨p + n,false⟩):=by simp [RSt.row,hf]
   rw [hn]
   exact ⟨A',n,k,he,ho,hr,hon⟩
  ·refine (bytes_short g A l c p n w h hm (by omega) (by have:p ≤ l:=hp;omega) (by omega)).mono fun e w' ⟨he,hr,hon⟩ => ?_
   have hn:RSt.row bs ⟨p,false⟩ n = ([],⟨p,true⟩):=by simp [RSt.row,hf]
   rw [hn]
   exact ⟨none,0,0,he,World.ownsRow_nil _ _ _ _,hr,hon⟩
theorem at_any (g:Nat) (A:Option Addr) (l c:Nat) (p:Int) (bad:Bool) (w:World) (h:Rd w g A l c p bad) :
  Calls Tryz.prog 91 #[.pointer (some ⟨g,0,none⟩)] w fun e w' => e = .returned (.int .i64 p)∧w = w':=by
 obtain ⟨c0,c1,c2,f1,f2⟩:=h.cells
 clear h
 go_enter Tryz.func91,Tryz.ntmps91
 go_wp2
 go_ret
 exact ⟨rfl,rfl⟩
end Go.Proofs.YtaknladkodibaaaGreatDoor
namespace Go.Proofs.YtaknladkodibaaaGreatDoor
open Go.RowKit CrcP FieldP
def isB (mk bs:List UInt8) (p:Int):Bool:=decide (0 ≤ p) && decide (p ≤ (bs.length:Int) - mk.length) && decide ((bs.drop p.toNat).take mk.length = mk)
theorem isB_low {mk bs:List UInt8} {p:Int} (h:p < 0):isB mk bs p = false:=by unfold isB;simp;omega
theorem isB_high {mk bs:List UInt8} {p:Int} (h:(bs.length:Int) - mk.length < p):isB mk bs p = false:=by unfold isB;simp;omega
theorem isB_in {mk bs:List UInt8} {p:Nat} (h:p + mk.length ≤ bs.length):isB mk bs (p:Int) = decide ((bs.drop p).take mk.length = mk):=by
 unfold isB
 rw [decide_eq_true (by omega),decide_eq_true (by omega),Int.toNat_natCast]
 rfl
theorem bytes_eq (X:List UInt8) (s:ByteArray):((⟨X.toArray⟩:ByteArray).toList == s.toList) = decide (X = s.data.toList):=by
 rw [ByteArray.toList_eq,ByteArray.toList_eq,Bool.eq_iff_iff]
 simp
set_option maxRecDepth 100000 in
set_option maxHeartbeats 1000000 in
theorem is_any (s:ByteArray) (A:Option Addr) (l c:Nat) (bs:List UInt8) (B:Nat) (p:Int) (w:World) (hs:s.size = 4) (hl:bs.length = l) (hm:l ≤ 1099511627776) (hlc:l ≤ c)
  (p0:-9223372036854775808 ≤ p) (p1:p ≤ 9223372036854775807) (hb:Bytes w B A bs) :
  Calls Tryz.prog 85 #[.string s,.slice A l c,.int .i64 p] w fun e w' => e = .returned (.bool (isB s.data.toList bs p))∧w = w':=by
 have hsl:s.data.toList.length = 4:=by rw [Array.length_toList];exact hs
 have HS:=Lib.hid hs
 have HL:=Lib.hid hl
 have HB:Hid (Bytes w B A bs):=hb
 have hsz:s.data.size = 4:=hs
 clear hl hb hs
 by_cases hp:p < 0
 ·have HI:=Lib.hid (isB_low (mk:=s.data.toList) (bs:=bs) hp)
  clear hsl
  go_enter Tryz.func85,Tryz.ntmps85
  go_wp2
  go_ret
  exact ⟨by rw [HI.out];rfl,rfl⟩
 obtain ⟨p,rfl⟩:=Int.eq_ofNat_of_zero_le (show 0 ≤ p by omega)
 by_cases hh:(l:Int) - 4 < p
 ·have HI:=Lib.hid (isB_high (mk:=s.data.toList) (bs:=bs) (p:=(p:Int)) (by rw [hsl,HL.out];omega))
  have hsz':(s.size:Int) = 4:=by rw [HS.out];rfl
  clear hsl
  go_enter Tryz.func85,Tryz.ntmps85
  go_wp2
  go_ret
  exact ⟨by rw [HI.out];rfl,rfl⟩
 ·have HI:=Lib.hid (isB_in (mk:=s.data.toList) (bs:=bs) (p:=p) (by rw [hsl,HL.out];omega))
  rw [hsl] at HI
  obtain ⟨b,o,rfl,hbB,hcell⟩:=HB.out (by rw [byteCells_length,HL.out];omega)
  have HC:Hid (Bytes w B (some ⟨b,o + p,none⟩) ((bs.drop p).take 4)):=fun _ => ⟨b,o + p,rfl,hbB,fun j u hu => by
   have h2:(byteCells bs)[p + j]? = some u:=by
    unfold byteCells at hu ⊢
    rw [List.getElem?_map,List.getElem?_take] at hu
    split at hu
    ·rw [List.getElem?_drop] at hu
     rw [List.getElem?_map,hu]
    ·simp at hu
   have:=hcell (p + j) u h2
   rw [← Nat.add_assoc] at this
   exact this⟩
  have hcv:=run_string_of (P:=Tryz.prog) (c:=c - p) 25 9 5 Tryz.underlying25 Tryz.underlying5 Tryz.underlying9 HC.out (l:=4) (by rw [List.length_take,List.length_drop,HL.out];omega)
  have HT:Hid (∃ t:ByteArray,t = ⟨((bs.drop p).take 4).toArray⟩):=⟨_,rfl⟩
  obtain ⟨t,ht⟩:=HT.out
  rw [← ht] at hcv
  have HT:=Lib.hid ht
  have hsz':(s.size:Int) = 4:=by rw [HS.out];rfl
  have hcp:¬ c = p:=by omega
  have hpl:p + 4 ≤ l:=by omega
  clear ht hcell hsl
  go_enter Tryz.func85,Tryz.ntmps85
  go_wp2
  go_ret
  refine ⟨?_,rfl⟩
  show Ending.returned (.bool (t.toList == s.toList)) = _
  rw [HI.out,HT.out,bytes_eq]
set_option maxHeartbeats 400000 in
theorem open_arg (s:ByteArray) (A:Option Addr) (l c:Nat) (p:Int) (w:World) (h:p < 0 ∨ (l:Int) < p) :
  Calls Tryz.prog 87 #[.string s,.slice A l c,.int .i64 p] w fun e w' => e = .returned (.tuple #[.pointer none,.int .i64 1])∧w = w':=by
 by_cases h0:p < 0
 ·clear h
  go_enter Tryz.func87,Tryz.ntmps87
  go_wp2
  go_ret2
  exact ⟨rfl,rfl⟩
 ·have h1:(l:Int) < p:=by omega
  clear h
  go_enter Tryz.func87,Tryz.ntmps87
  go_wp2
  go_ret2
  exact ⟨rfl,rfl⟩
set_option maxHeartbeats 400000 in
theorem open_form (s:ByteArray) (A:Option Addr) (l c:Nat) (bs:List UInt8) (B:Nat) (p:Nat) (w:World) (hs:s.size = 4) (hl:bs.length = l) (hm:l ≤ 1099511627776) (hlc:l ≤ c)
  (hb:Bytes w B A bs) (hp:p + 4 ≤ l) (hi:isB s.data.toList bs p = false) :
  Calls Tryz.prog 87 #[.string s,.slice A l c,.int .i64 (p:Int)] w fun e w' => e = .returned (.tuple #[.pointer none,.int .i64 3])∧w = w':=by
 have HI:=Lib.hid (is_any s A l c bs B p w hs hl hm hlc (by omega) (by omega) hb)
 rw [hi] at HI
 have hsz:(s.size:Int) = 4:=by rw [hs];rfl
 have hsz':s.data.size = 4:=hs
 have h1:¬ (l:Int) < p:=by omega
 have h2:decide ((4:Int) ≤ (l:Int) - (p:Int)) = true:=by simp;omega
 clear hl hb hi hs
 go_enter Tryz.func87,Tryz.ntmps87
 go_wp2_with (go_at_call 85;refine HI.out.mono ?_;rintro e w' ⟨rfl,rfl⟩)
 go_ret2
 exact ⟨rfl,rfl⟩
def openS (bs:List UInt8) (p:Nat):RSt:=(RSt.row bs ⟨p,false⟩ 4).2
set_option maxHeartbeats 1000000 in
theorem open_ok (s:ByteArray) (A:Option Addr) (l c:Nat) (bs:List UInt8) (B:Nat) (p:Nat) (w:World) (hs:s.size = 4) (hl:bs.length = l) (hm:l ≤ 1099511627776) (hlc:l ≤ c)
  (hb:Bytes w B A bs) (hB:B ≤ w.heap.size) (hp:p ≤ l) (hi:p + 4 ≤ l→isB s.data.toList bs p = true) :
  Calls Tryz.prog 87 #[.string s,.slice A l c,.int .i64 (p:Int)] w fun e w' => ∃ g,e = .returned (.tuple #[.pointer (some ⟨g,0,none⟩),.int .i64 0])∧w.heap.size ≤ g∧RdK w' g A l c (openS bs p)∧Below w.heap.size w w':=by
 have hsz:(s.size:Int) = 4:=by rw [hs];rfl
 have hsz':s.data.size = 4:=hs
 have h1:¬ (l:Int) < p:=by omega
 have HN:=Lib.hid (newK_any A l c w)
 have HSK:=Lib.hid (seek_any w.heap.size A l c 0 (p:Int) _ (rd_new A l c w) (by omega) (by omega))
 have HBA:=Lib.hid (hb.alloc hB (.cells #[.slice A l c,.int .i64 0,.bool false] 196))
 have HB0:=Lib.hid ((Below.refl w.heap.size w).alloc (Nat.le_refl _) (.cells #[.slice A l c,.int .i64 0,.bool false] 196))
 have HZ:Hid ((w.alloc (.cells #[.slice A l c,.int .i64 0,.bool false] 196)).heap.size = w.heap.size + 1):=by show _ = _;simp
 have HL:=Lib.hid hl
 have HST:Hid (openS bs p = (RSt.row bs ⟨p,false⟩ 4).2):=rfl
 have HI:Hid (p + 4 ≤ l→Calls Tryz.prog 85 #[.string s,.slice A l c,.int .i64 p] w fun e w' => e = .returned (.bool true)∧w = w'):=fun h4 => by
  have:=is_any s A l c bs B p w hs hl hm hlc (by omega) (by omega) hb
  rwa [hi h4] at this
 clear hb hl hi hs
 have tail:∀ w2,RdK w2 w.heap.size A l c ⟨p,false⟩→Only w.heap.size (w.alloc (.cells #[.slice A l c,.int .i64 0,.bool false] 196)) w2 →
   Calls Tryz.prog 89 #[.pointer (some ⟨w.heap.size,0,none⟩),.int .i64 4] w2 fun e w' => ∃ A' m k,e = .returned (.slice A' m k)∧RdK w' w.heap.size A l c (openS bs p)∧Below w.heap.size w w':=by
  intro w2 hr ho
  have hz:=HZ.out
  have hbw:=only_below ho HB0.out (by omega) (Nat.le_refl _)
  refine (bytes_st w.heap.size A l c bs B ⟨p,false⟩ 4 w2 hr HL.out hm hlc hp (HBA.out.below (only_below ho (Below.refl w.heap.size _) (by omega) (Nat.le_refl _)) hB) (Nat.le_trans hB hbw.size)).mono ?_
  rintro e w3 ⟨A',m,k,he,_,hr3,ho3⟩
  exact ⟨A',m,k,he,hr3,only_below ho3 hbw hbw.size (Nat.le_refl _)⟩
 have HT:=Lib.hid tail
 clear tail
 by_cases h4:p + 4 ≤ l
 ·have HI2:=Lib.hid (HI.out h4)
  have h2:decide ((4:Int) ≤ (l:Int) - (p:Int)) = true:=by simp;omega
  go_enter Tryz.func87,Tryz.ntmps87
  go_wp2_with (first | (go_at_call 85;refine HI2.out.mono ?_;rintro e w' ⟨rfl,rfl⟩) | (go_at_call 126;refine HN.out.mono ?_;rintro e w' ⟨rfl,rfl⟩) | (go_at_call 130;refine HSK.out.mono ?_;rintro e w2 ⟨rfl,hr,ho⟩;have HR:=Lib.hid hr;have HO:=Lib.hid ho;clear hr ho) | (go_at_call 89;refine (HT.out _ HR.out HO.out).mono ?_;rintro e w3 ⟨A',m,k,rfl,hr,hbw⟩;have HR3:=Lib.hid hr;have HB3:=Lib.hid hbw;clear hr hbw))
  go_ret2
  exact ⟨_,rfl,Nat.le_refl _,HR3.out,HB3.out⟩
 ·have h2:decide ((4:Int) ≤ (l:Int) - (p:Int)) = false:=by simp;omega
  go_enter Tryz.func87,Tryz.ntmps87
  go_wp2_with (first | (go_at_call 126;refine HN.out.mono ?_;rintro e w' ⟨rfl,rfl⟩) | (go_at_call 130;refine HSK.out.mono ?_;rintro e w2 ⟨rfl,hr,ho⟩;have HR:=Lib.hid hr;have HO:=Lib.hid ho;clear hr ho) | (go_at_call 89;refine (HT.out _ HR.out HO.out).mono ?_;rintro e w3 ⟨A',m,k,rfl,hr,hbw⟩;have HR3:=Lib.hid hr;have HB3:=Lib.hid hbw;clear hr hbw))
  go_ret2
  exact ⟨_,rfl,Nat.le_refl _,HR3.out,HB3.out⟩
def chkN (bs:List UInt8) (p:Nat) (s:RSt):Nat :=
 if (s.num bs 4).2.bad = true then 2 else if (s.num bs 4).1 = sumN ((bs.drop p).take (s.p - p)) then 0 else 4
theorem table_ne {w:World} {tg g:Nat} {A:Option Addr} {l c:Nat} {p:Int} {bad:Bool} (hT:Table w tg) (hr:Rd w g A l c p bad):tg ≠ g:=by
 intro he
 subst he
 unfold Table at hT
 unfold Rd at hr
 rw [hT] at hr
 injection hr with hr
 injection hr with _ ht
 exact absurd ht (by decide)
theorem table_only {w w':World} {tg g:Nat} (hT:Table w tg) (ho:Only g w w') (hne:tg ≠ g):Table w' tg:=(ho.block tg hT.lt (fun e => by injection e with e;exact hne (by first | exact e | exact e.symm))).trans hT
set_option maxRecDepth 100000 in
set_option maxHeartbeats 1000000 in
theorem check_any (tg g:Nat) (A:Option Addr) (l c:Nat) (bs:List UInt8) (B:Nat) (p:Nat) (s:RSt) (w:World) (hT:Table w tg) (h:RdK w g A l c s) (hl:bs.length = l) (hm:l ≤ 1099511627776) (hlc:l ≤ c)
  (hs:s.p ≤ l) (hps:p ≤ s.p) (hb:Bytes w B A bs) (hB:B ≤ g) :
  Calls Tryz.prog 90 #[.pointer (some ⟨tg,0,none⟩),.pointer (some ⟨g,0,none⟩),.slice A l c,.int .i64 (p:Int)] w fun e w' => e = .returned (.int .i64 (chkN bs p s:Nat))∧RdK w' g A l c (s.num bs 4).2∧Only g w w':=by
 have HAT:=Lib.hid (at_any g A l c s.p s.bad w h)
 have HNU:=Lib.hid (number_st g A l c bs B s 4 4 w h hl hm hs (by omega) (by omega) rfl hb)
 have hne:=table_ne hT h
 have HT:Hid (Table w tg):=hT
 have HB:Hid (Bytes w B A bs):=hb
 have HL:=Lib.hid hl
 have hgw:=h.lt
 have HNE:=Lib.hid hne
 have hlt:=num_lt (bs:=bs) (s:=s) (k:=4) (Nat.le_refl _)
 have HD:Hid (chkN bs p s = if (s.num bs 4).2.bad = true then 2 else if (s.num bs 4).1 = sumN ((bs.drop p).take (s.p - p)) then 0 else 4):=rfl
 have HG:Hid ((s.num bs 4).2.bad = false→s.p + 4 ≤ l):=fun hf => by
  unfold RSt.num at hf
  split at hf
  ·rename_i h1;rw [h1] at hf;cases hf
  ·split at hf
   ·rw [← hl];assumption
   ·cases hf
 clear h hT hb hl hne
 generalize hnum:s.num bs 4 = r at *
 obtain ⟨x,st⟩:=r
 obtain ⟨q,bad2⟩:=st
 cases bad2 with
 | true =>
  have HD2:Hid (chkN bs p s = 2):=by show _ = _;rw [HD.out];rfl
  clear HD HG
  go_enter Tryz.func90,Tryz.ntmps90
  go_wp2_with (first | (go_at_call 91;refine HAT.out.mono ?_;rintro e w' ⟨rfl,rfl⟩) | (go_at_call 88;refine HNU.out.mono ?_;rintro e w2 ⟨rfl,hr,ho⟩;have HR:=Lib.hid hr;have HO:=Lib.hid ho;clear hr ho) | (go_at_call 128;refine (ok_any g A l c _ _ _ HR.out).mono ?_;rintro e w' ⟨rfl,rfl⟩))
  go_ret
  exact ⟨by rw [HD2.out];rfl,HR.out,HO.out⟩
 | false =>
  have h4:s.p + 4 ≤ l:=HG.out rfl
  obtain ⟨b,o,rfl,hbB,hcell⟩:=HB.out (by rw [byteCells_length,HL.out];omega)
  have HC:Hid (Bytes w B (some ⟨b,o + p,none⟩) ((bs.drop p).take (s.p - p))):=fun _ => ⟨b,o + p,rfl,hbB,fun j u hu => by
   have h2:(byteCells bs)[p + j]? = some u:=by
    unfold byteCells at hu ⊢
    rw [List.getElem?_map,List.getElem?_take] at hu
    split at hu
    ·rw [List.getElem?_drop] at hu
     rw [List.getElem?_map,hu]
    ·simp at hu
   have:=hcell (p + j) u h2
   rw [← Nat.add_assoc] at this
   exact this⟩
  have HLT:Hid (((bs.drop p).take (s.p - p)).length = s.p - p):=by show _ = _;rw [List.length_take,List.length_drop,HL.out];omega
  have hcp:¬ c = p:=by omega
  have hpp:(p:Int) ≤ (s.p:Int):=by omega
  have hsl:=sumN_lt ((bs.drop p).take (s.p - p))
  clear hcell HG hnum
  have hx:x < 4294967296:=hlt
  clear hlt
  have HD2:Hid (chkN bs p s = if x = sumN ((bs.drop p).take (s.p - p)) then 0 else 4):=HD.out
  clear HD
  obtain ⟨y,hy⟩:∃ y,sumN ((bs.drop p).take (s.p - p)) = y:=⟨_,rfl⟩
  have HSUM:Hid (∀ w2,Only g w w2→Calls Tryz.prog 33 #[.pointer (some ⟨tg,0,none⟩),.slice (some ⟨b,o + p,none⟩) (s.p - p) (c - p)] w2 fun e w' => e = .returned (.int .u32 (y:Nat))∧w2 = w'):=fun w2 ho => by
   have:=sum_any tg (some ⟨b,o + p,none⟩) (s.p - p) (c - p) _ B w2 HLT.out (by omega) (table_only HT.out ho HNE.out) (HC.out.only ho (by omega) hB)
   rw [hy] at this
   exact this
  rw [hy] at HD2 hsl
  clear hy HC HLT HB
  by_cases hq:x = y
  ·subst hq
   have HD3:Hid (chkN bs p s = 0):=by show _ = _;rw [HD2.out,if_pos rfl]
   clear HD2
   go_enter Tryz.func90,Tryz.ntmps90
   go_wp2_with (first | (go_at_call 91;refine HAT.out.mono ?_;rintro e w' ⟨rfl,rfl⟩) | (go_at_call 88;refine HNU.out.mono ?_;rintro e w2 ⟨rfl,hr,ho⟩;have HR:=Lib.hid hr;have HO:=Lib.hid ho;clear hr ho) | (go_at_call 128;refine (ok_any g _ l c _ _ _ HR.out).mono ?_;rintro e w' ⟨rfl,rfl⟩) | (go_at_call 33;refine (HSUM.out _ HO.out).mono ?_;rintro e w' ⟨rfl,rfl⟩))
   go_ret
   exact ⟨by rw [HD3.out];rfl,HR.out,HO.out⟩
  ·have HD3:Hid (chkN bs p s = 4):=by show _ = _;rw [HD2.out,if_neg hq]
   have hne1:((x:Int) != (y:Int)) = true:=by simp;omega
   have hne2:((x:Int) == (y:Int)) = false:=by simp;omega
   clear HD2 hq
   go_enter Tryz.func90,Tryz.ntmps90
   go_wp2_with (first | (go_at_call 91;refine HAT.out.mono ?_;rintro e w' ⟨rfl,rfl⟩) | (go_at_call 88;refine HNU.out.mono ?_;rintro e w2 ⟨rfl,hr,ho⟩;have HR:=Lib.hid hr;have HO:=Lib.hid ho;clear hr ho) | (go_at_call 128;refine (ok_any g _ l c _ _ _ HR.out).mono ?_;rintro e w' ⟨rfl,rfl⟩) | (go_at_call 33;refine (HSUM.out _ HO.out).mono ?_;rintro e w' ⟨rfl,rfl⟩))
   go_ret
   exact ⟨by rw [HD3.out];rfl,HR.out,HO.out⟩
theorem Box.set {w:World} {g i:Nat} {cs:Array Value} {t:TypeId} (h:Box w g cs t) (v:Value):Box (w.setCell ⟨g,i,none⟩ v) g (cs.setIfInBounds i v) t:=heap_setCell_same w g i _ _ _ h
theorem Box.only {w w':World} {g k:Nat} {cs:Array Value} {t:TypeId} (h:Box w k cs t) (ho:Only g w w') (hne:k ≠ g):Box w' k cs t:=(ho.block k h.lt (fun e => by injection e with e;exact hne (by first | exact e | exact e.symm))).trans h
theorem Box.set_other {w:World} {g i k:Nat} {cs:Array Value} {t:TypeId} (h:Box w k cs t) (v:Value) (hne:k ≠ g):Box (w.setCell ⟨g,i,none⟩ v) k cs t:=(Below.heap_setCell w _ v k (fun e => hne (by simpa using e))).trans h
theorem RdK.set_other {w:World} {g i k:Nat} {A:Option Addr} {l c:Nat} {s:RSt} (h:RdK w k A l c s) (v:Value) (hne:k ≠ g):RdK (w.setCell ⟨g,i,none⟩ v) k A l c s:=(Below.heap_setCell w _ v k (fun e => hne (by simpa using e))).trans h
def stK (bs:List UInt8) (s:RSt):Nat→RSt
 | 0 => s
 | k + 1 => ((stK bs s k).num bs 4).2
def vaK (bs:List UInt8) (s:RSt) (k:Nat):Nat:=((stK bs s k).num bs 4).1
theorem stK_le {bs:List UInt8} {s:RSt} (h:s.p ≤ bs.length):∀ k,(stK bs s k).p ≤ bs.length
 | 0 => h
 | k + 1 => num_le (stK_le h k)
theorem num_ge (bs:List UInt8) (s:RSt) (k:Nat):s.p ≤ (s.num bs k).2.p:=by
 unfold RSt.num
 split
 ·exact Nat.le_refl _
 ·split
  ·exact Nat.le_add_right _ _
  ·exact Nat.le_refl _
theorem stK_ge (bs:List UInt8) (s:RSt):∀ k,s.p ≤ (stK bs s k).p
 | 0 => Nat.le_refl _
 | k + 1 => Nat.le_trans (stK_ge bs s k) (num_ge _ _ _)
theorem openS_le {bs:List UInt8} {p:Nat} (h:p ≤ bs.length):(openS bs p).p ≤ bs.length:=row_le (s:=⟨p,false⟩) h
theorem openS_ge (bs:List UInt8) (p:Nat):p ≤ (openS bs p).p:=by
 unfold openS RSt.row
 split
 ·exact Nat.le_refl _
 ·split
  ·exact Nat.le_add_right _ _
  ·exact Nat.le_refl _
theorem num_there {bs:List UInt8} {p k:Nat} (h:p + k ≤ bs.length):RSt.num bs ⟨p,false⟩ k = (val ((bs.drop p).take k),⟨p + k,false⟩):=by
 unfold RSt.num
 rw [if_neg (by simp),if_pos h]
theorem row_there {bs:List UInt8} {p k:Nat} (h:p + k ≤ bs.length):RSt.row bs ⟨p,false⟩ k = ((bs.drop p).take k,⟨p + k,false⟩):=by
 unfold RSt.row
 rw [if_neg (by simp),if_pos h]
theorem openS_there {bs:List UInt8} {p:Nat} (h:p + 4 ≤ bs.length):openS bs p = ⟨p + 4,false⟩:=by unfold openS;rw [row_there h]
theorem stK_there {bs:List UInt8} {p:Nat}:∀ k,p + 4 * k ≤ bs.length→stK bs ⟨p,false⟩ k = ⟨p + 4 * k,false⟩
 | 0,_ => rfl
 | k + 1,h => by
  rw [stK,stK_there k (by omega),num_there (by omega)]
  rfl
theorem vaK_there {bs:List UInt8} {p k:Nat} (h:p + 4 * k + 4 ≤ bs.length):vaK bs ⟨p,false⟩ k = val ((bs.drop (p + 4 * k)).take 4):=by
 unfold vaK
 rw [stK_there k (by omega),num_there h]
theorem cut_in {X:List UInt8} {bs:List UInt8} {p n i k:Nat} (h:(bs.drop p).take n = X) (hi:i + k ≤ n):(bs.drop (p + i)).take k = (X.drop i).take k:=by
 rw [← h,List.drop_take,List.take_take,List.drop_drop,show min k (n - i) = k by omega]
theorem val_put4 {a:Nat} (h:a < 4294967296):val (putN a 4) = a:=by rw [val_putN];exact Nat.mod_eq_of_lt h
theorem app_drop {a b:List UInt8} {n:Nat} (h:a.length = n):(a++b).drop n = b:=by subst h;exact List.drop_left
theorem app_take {a b:List UInt8} {n:Nat} (h:a.length = n):(a++b).take n = a:=by subst h;exact List.take_left
theorem row_ge (bs:List UInt8) (s:RSt) (k:Nat):s.p ≤ (s.row bs k).2.p:=by
 unfold RSt.row
 split
 ·exact Nat.le_refl _
 ·split
  ·exact Nat.le_add_right _ _
  ·exact Nat.le_refl _
theorem row_len {bs:List UInt8} (s:RSt) (k:Nat):(s.row bs k).1.length ≤ k:=by
 unfold RSt.row
 split
 ·exact Nat.zero_le _
 ·split
  ·rw [List.length_take];omega
  ·exact Nat.zero_le _
theorem num_lt1 (bs:List UInt8) (s:RSt):(s.num bs 1).1 < 4294967296:=num_lt (by omega)
theorem own_capK {w:World} {base:Nat} {e:TypeId} {A:Option Addr} {n c:Nat} {xs:List Value} (h:OwnT w base e (.slice A n c) n xs):n ≤ c:=by
 rcases h.2 with ⟨h1,h2⟩ | ⟨g,cap,cur,fz,h1,_,_,_,h3,_⟩
 ·omega
 ·injection h1 with _ _ h4
  omega
def arr3 (a b c:Nat):Nat→Array Value
 | 0 => #[.int .u32 0,.int .u32 0,.int .u32 0]
 | 1 => #[.int .u32 (a:Int),.int .u32 0,.int .u32 0]
 | 2 => #[.int .u32 (a:Int),.int .u32 (b:Int),.int .u32 0]
 | _ => #[.int .u32 (a:Int),.int .u32 (b:Int),.int .u32 (c:Int)]
set_option maxRecDepth 100000 in
set_option maxHeartbeats 1000000 in
theorem take3_form (tg:Nat) (s:ByteArray) (A:Option Addr) (l c:Nat) (bs:List UInt8) (B:Nat) (p:Nat) (w:World) (hs:s.size = 4) (hl:bs.length = l) (hm:l ≤ 1099511627776) (hlc:l ≤ c)
  (hb:Bytes w B A bs) (hB:B ≤ w.heap.size) (hp:p + 4 ≤ l) (hi:isB s.data.toList bs p = false) :
  Calls Tryz.prog 132 #[.pointer (some ⟨tg,0,none⟩),.string s,.slice A l c,.int .i64 (p:Int)] w fun e w' => e = .returned (.tuple #[.agg #[.int .u32 0,.int .u32 0,.int .u32 0],.int .i64 3])∧Below w.heap.size w w':=by
 have HO:=Lib.hid (open_form s A l c bs B p _ hs hl hm hlc (hb.alloc hB (.cells #[.int .u32 0,.int .u32 0,.int .u32 0] 133)) hp hi)
 clear hi hb hs hl
 go_enter Tryz.func132,Tryz.ntmps132
 go_wp2_with (go_at_call 87;refine HO.out.mono ?_;rintro e w' ⟨rfl,rfl⟩)
 exact bodyPost_ret (v:=.tuple #[.agg #[.int .u32 0,.int .u32 0,.int .u32 0],.int .i64 3]) (by simp [results,Tryz.results132,go_sem]) rfl ⟨rfl,(Below.refl _ _).alloc (Nat.le_refl _) _⟩
def threeR (bs:List UInt8) (p:Nat):Nat:=chkN bs p (stK bs (openS bs p) 3)
def take3V (bs:List UInt8) (p:Nat):Value :=
 .tuple #[.agg (if threeR bs p = 0 then arr3 (vaK bs (openS bs p) 0) (vaK bs (openS bs p) 1) (vaK bs (openS bs p) 2) 3 else #[.int .u32 0,.int .u32 0,.int .u32 0]),.int .i64 (threeR bs p:Nat)]
theorem take3V_good {bs:List UInt8} {p:Nat} (h:threeR bs p = 0):take3V bs p = .tuple #[.agg #[.int .u32 (vaK bs (openS bs p) 0:Nat),.int .u32 (vaK bs (openS bs p) 1:Nat),.int .u32 (vaK bs (openS bs p) 2:Nat)],.int .i64 0]:=by
 unfold take3V
 rw [if_pos h,h]
 rfl
theorem take3V_bad {bs:List UInt8} {p:Nat} (h:threeR bs p ≠ 0):take3V bs p = .tuple #[.agg #[.int .u32 0,.int .u32 0,.int .u32 0],.int .i64 (threeR bs p:Nat)]:=by
 unfold take3V
 rw [if_neg h]
set_option maxRecDepth 100000 in
set_option maxHeartbeats 4000000 in
theorem take3_ok (tg:Nat) (s:ByteArray) (A:Option Addr) (l c:Nat) (bs:List UInt8) (B:Nat) (p:Nat) (w:World) (hT:Table w tg) (hs:s.size = 4) (hl:bs.length = l) (hm:l ≤ 1099511627776) (hlc:l ≤ c)
  (hb:Bytes w B A bs) (hB:B ≤ w.heap.size) (hp:p ≤ l) (hi:p + 4 ≤ l→isB s.data.toList bs p = true) :
  Calls Tryz.prog 132 #[.pointer (some ⟨tg,0,none⟩),.string s,.slice A l c,.int .i64 (p:Int)] w fun e w' =>
   e = .returned (take3V bs p)∧Below w.heap.size w w':=by
 have HO:=Lib.hid (open_ok s A l c bs B p _ hs hl hm hlc (hb.alloc hB (.cells #[.int .u32 0,.int .u32 0,.int .u32 0] 133)) (by simp;omega) hp hi)
 have HT0:=Lib.hid hT
 have HBA:=Lib.hid hb
 have HL:=Lib.hid hl
 have htl:=hT.lt
 have HB0:=Lib.hid ((Below.refl w.heap.size w).alloc (Nat.le_refl _) (.cells #[.int .u32 0,.int .u32 0,.int .u32 0] 133))
 have HX0:Hid (Box (w.alloc (.cells #[.int .u32 0,.int .u32 0,.int .u32 0] 133)) w.heap.size #[.int .u32 0,.int .u32 0,.int .u32 0] 133):=heap_alloc_new w _
 have HZ0:Hid ((w.alloc (.cells #[.int .u32 0,.int .u32 0,.int .u32 0] 133)).heap.size = w.heap.size + 1):=by show _ = _;simp
 have HS0:=Lib.hid (openS_le (bs:=bs) (p:=p) (by omega))
 have HG0:=Lib.hid (openS_ge bs p)
 have HR:Hid (threeR bs p = chkN bs p (stK bs (openS bs p) 3)):=rfl
 have HVG:Hid (threeR bs p = 0→take3V bs p = .tuple #[.agg #[.int .u32 (vaK bs (openS bs p) 0:Nat),.int .u32 (vaK bs (openS bs p) 1:Nat),.int .u32 (vaK bs (openS bs p) 2:Nat)],.int .i64 0]):=take3V_good
 have HVB:Hid (threeR bs p ≠ 0→take3V bs p = .tuple #[.agg #[.int .u32 0,.int .u32 0,.int .u32 0],.int .i64 (threeR bs p:Nat)]):=take3V_bad
 clear hi hb hs hl hT
 generalize openS bs p = s0 at *
 generalize hw0:w.alloc (.cells #[.int .u32 0,.int .u32 0,.int .u32 0] 133) = w0 at *
 go_enter Tryz.func132,Tryz.ntmps132
 go_wp2_with (go_at_call 87;refine HO.out.mono ?_;rintro e w1 ⟨g,rfl,hg,hr,hbw⟩;have HR1:=Lib.hid hr;have HB1:=Lib.hid hbw;clear hr hbw)
 have hz0:=HZ0.out
 have hz1:=HB1.out.size
 have hgl:=HR1.out.lt
 have HM1:=Lib.hid (HB0.out.trans (HB1.out.mono (by omega)))
 have HX1:=Lib.hid (HX0.out.below HB1.out (by omega))
 have HA1:=Lib.hid ((Below.refl w1.heap.size w1).alloc (Nat.le_refl _) (.cells #[.int .u32 0,.int .u32 0,.int .u32 0] 133))
 have HRs:Hid (RdK (w1.alloc (.cells #[.int .u32 0,.int .u32 0,.int .u32 0] 133)) g A l c s0):=Rd.below HR1.out HA1.out hgl
 have HNs:Hid (Box (w1.alloc (.cells #[.int .u32 0,.int .u32 0,.int .u32 0] 133)) w1.heap.size #[.int .u32 0,.int .u32 0,.int .u32 0] 133):=heap_alloc_new w1 _
 have HXs:=Lib.hid (HX1.out.alloc (.cells #[.int .u32 0,.int .u32 0,.int .u32 0] 133))
 have HMs:=Lib.hid (HM1.out.trans (HA1.out.mono (by omega)))
 obtain ⟨N,hN⟩:∃ N,w1.heap.size = N:=⟨_,rfl⟩
 rw [hN] at HNs hgl
 rw [hN]
 have hNw:w.heap.size + 1 ≤ N:=by omega
 clear HR1 HB1 HM1 HX1 HA1 HO HX0 HB0
 generalize hv0:vaK bs s0 0 = v0 at *
 generalize hv1:vaK bs s0 1 = v1 at *
 generalize hv2:vaK bs s0 2 = v2 at *
 have HV0:=Lib.hid hv0
 have HV1:=Lib.hid hv1
 have HV2:=Lib.hid hv2
 clear hv0 hv1 hv2
 go_loopw [13,26] (fun _ i wr => ∃ k:Nat,k ≤ 3∧i = .int .i64 k∧RdK wr g A l c (stK bs s0 k)∧Box wr N (arr3 v0 v1 v2 k) 133∧Box wr w.heap.size #[.int .u32 0,.int .u32 0,.int .u32 0] 133∧Below w.heap.size w wr) (fun _ i _ => 3 - (intOf i).toNat)
 case atStart => exact ⟨0,by omega,rfl,HRs.out,HNs.out,HXs.out,HMs.out⟩
 case round =>
  clear HRs HNs HXs HMs
  obtain ⟨k,hk,rfl,hr,hn,hx,hm2⟩:=hrel
  have HRk:=Lib.hid hr
  have HNk:=Lib.hid hn
  have HXk:=Lib.hid hx
  have HMk:=Lib.hid hm2
  clear hr hn hx hm2
  have hgN:g ≠ N:=by omega
  have hgw:w.heap.size ≠ g:=by omega
  by_cases hk3:k < 3
  ·have hk4:k = 0 ∨ k = 1 ∨ k = 2:=by omega
   rcases hk4 with rfl | rfl | rfl
   ·have HNU:=Lib.hid (number_st g A l c bs B (stK bs s0 0) 4 4 _ HRk.out HL.out hm (by have:=stK_le HS0.out 0;have:=HL.out;omega) (by omega) (by omega) rfl (HBA.out.below HMk.out hB))
    have hv:((stK bs s0 0).num bs 4).1 = v0:=HV0.out
    rw [hv] at HNU
    have hvl:v0 < 4294967296:=by rw [← hv];exact num_lt (Nat.le_refl _)
    clear hv
    go_wp2_with (go_at_call 88;refine HNU.out.mono ?_;rintro e w2 ⟨rfl,hr,ho⟩;have HR2:=Lib.hid hr;have HN2:=Lib.hid (HNk.out.only ho hgN.symm);have HX2:=Lib.hid (HXk.out.only ho hgw);have HM2:=Lib.hid (only_below ho HMk.out HMk.out.size (by omega));clear hr ho;have hc:w2.cell? ⟨N,0,none⟩ = some (.int .u32 0):=HN2.out.cell 0;have hf:=frozen_of_row w2 N 0 _ _ HN2.out)
    exact ⟨⟨1,by omega,rfl,HR2.out.set_other _ hgN,HN2.out.set _,HX2.out.set_other _ (by omega),HM2.out.setCell (p:=⟨N,0,none⟩) (by show w.heap.size ≤ N;omega) _⟩,by simp [intOf]⟩
   ·have HNU:=Lib.hid (number_st g A l c bs B (stK bs s0 1) 4 4 _ HRk.out HL.out hm (by have:=stK_le HS0.out 1;have:=HL.out;omega) (by omega) (by omega) rfl (HBA.out.below HMk.out hB))
    have hv:((stK bs s0 1).num bs 4).1 = v1:=HV1.out
    rw [hv] at HNU
    have hvl:v1 < 4294967296:=by rw [← hv];exact num_lt (Nat.le_refl _)
    clear hv
    go_wp2_with (go_at_call 88;refine HNU.out.mono ?_;rintro e w2 ⟨rfl,hr,ho⟩;have HR2:=Lib.hid hr;have HN2:=Lib.hid (HNk.out.only ho hgN.symm);have HX2:=Lib.hid (HXk.out.only ho hgw);have HM2:=Lib.hid (only_below ho HMk.out HMk.out.size (by omega));clear hr ho;have hc:w2.cell? ⟨N,1,none⟩ = some (.int .u32 0):=HN2.out.cell 1;have hf:=frozen_of_row w2 N 1 _ _ HN2.out)
    exact ⟨⟨2,by omega,rfl,HR2.out.set_other _ hgN,HN2.out.set _,HX2.out.set_other _ (by omega),HM2.out.setCell (p:=⟨N,1,none⟩) (by show w.heap.size ≤ N;omega) _⟩,by simp [intOf]⟩
   ·have HNU:=Lib.hid (number_st g A l c bs B (stK bs s0 2) 4 4 _ HRk.out HL.out hm (by have:=stK_le HS0.out 2;have:=HL.out;omega) (by omega) (by omega) rfl (HBA.out.below HMk.out hB))
    have hv:((stK bs s0 2).num bs 4).1 = v2:=HV2.out
    rw [hv] at HNU
    have hvl:v2 < 4294967296:=by rw [← hv];exact num_lt (Nat.le_refl _)
    clear hv
    go_wp2_with (go_at_call 88;refine HNU.out.mono ?_;rintro e w2 ⟨rfl,hr,ho⟩;have HR2:=Lib.hid hr;have HN2:=Lib.hid (HNk.out.only ho hgN.symm);have HX2:=Lib.hid (HXk.out.only ho hgw);have HM2:=Lib.hid (only_below ho HMk.out HMk.out.size (by omega));clear hr ho;have hc:w2.cell? ⟨N,2,none⟩ = some (.int .u32 0):=HN2.out.cell 2;have hf:=frozen_of_row w2 N 2 _ _ HN2.out)
    exact ⟨⟨3,by omega,rfl,HR2.out.set_other _ hgN,HN2.out.set _,HX2.out.set_other _ (by omega),HM2.out.setCell (p:=⟨N,2,none⟩) (by show w.heap.size ≤ N;omega) _⟩,by simp [intOf]⟩
  ·obtain rfl:k = 3:=by omega
   have HCK:=Lib.hid (check_any tg g A l c bs B p (stK bs s0 3) _ (HT0.out.below HMk.out htl) HRk.out HL.out hm hlc (by have:=stK_le HS0.out 3;have:=HL.out;omega) (Nat.le_trans HG0.out (stK_ge bs s0 3)) (HBA.out.below HMk.out hB) (by omega))
   rw [← HR.out] at HCK
   clear HR HS0 HG0 HV0 HV1 HV2
   obtain ⟨r,hr⟩:∃ r,threeR bs p = r:=⟨_,rfl⟩
   have HRQ:=Lib.hid hr
   rw [hr] at HCK
   clear hr
   by_cases hr0:r = 0
   ·subst hr0
    go_wp2_with (go_at_call 90;refine HCK.out.mono ?_;rintro e w2 ⟨rfl,_,ho⟩;have HN2:=Lib.hid (HNk.out.only ho hgN.symm);have HX2:=Lib.hid (HXk.out.only ho hgw);have HM2:=Lib.hid (only_below ho HMk.out HMk.out.size (by omega));clear ho;have hc0:w2.cell? ⟨N,0,none⟩ = some (.int .u32 (v0:Int)):=HN2.out.cell 0;have hc1:w2.cell? ⟨N,1,none⟩ = some (.int .u32 (v1:Int)):=HN2.out.cell 1;have hc2:w2.cell? ⟨N,2,none⟩ = some (.int .u32 (v2:Int)):=HN2.out.cell 2;have hx0:w2.cell? ⟨w.heap.size,0,none⟩ = some (.int .u32 0):=HX2.out.cell 0;have hx1:w2.cell? ⟨w.heap.size,1,none⟩ = some (.int .u32 0):=HX2.out.cell 1;have hx2:w2.cell? ⟨w.heap.size,2,none⟩ = some (.int .u32 0):=HX2.out.cell 2;have hf0:=frozen_of_row w2 w.heap.size 0 _ _ HX2.out;have hf1:=frozen_of_row w2 w.heap.size 1 _ _ HX2.out;have hf2:=frozen_of_row w2 w.heap.size 2 _ _ HX2.out)
    refine bodyPost_ret (v:=.tuple #[.agg #[.int .u32 (v0:Int),.int .u32 (v1:Int),.int .u32 (v2:Int)],.int .i64 0]) (by simp [results,Tryz.results132,hx0,hx1,hx2,go_sem]) rfl ⟨by rw [HVG.out HRQ.out],?_⟩
    exact ((HM2.out.setCell (p:=⟨w.heap.size,0,none⟩) (Nat.le_refl _) _).setCell (p:=⟨w.heap.size,1,none⟩) (Nat.le_refl _) _).setCell (p:=⟨w.heap.size,2,none⟩) (Nat.le_refl _) _
   ·have hne:((r:Int) != 0) = true:=by simp;omega
    go_wp2_with (go_at_call 90;refine HCK.out.mono ?_;rintro e w2 ⟨rfl,_,ho⟩;have HX2:=Lib.hid (HXk.out.only ho hgw);have HM2:=Lib.hid (only_below ho HMk.out HMk.out.size (by omega));clear ho;have hx0:w2.cell? ⟨w.heap.size,0,none⟩ = some (.int .u32 0):=HX2.out.cell 0;have hx1:w2.cell? ⟨w.heap.size,1,none⟩ = some (.int .u32 0):=HX2.out.cell 1;have hx2:w2.cell? ⟨w.heap.size,2,none⟩ = some (.int .u32 0):=HX2.out.cell 2;have hf0:=frozen_of_row w2 w.heap.size 0 _ _ HX2.out;have hf1:=frozen_of_row w2 w.heap.size 1 _ _ HX2.out;have hf2:=frozen_of_row w2 w.heap.size 2 _ _ HX2.out)
    refine bodyPost_ret (v:=.tuple #[.agg #[.int .u32 0,.int .u32 0,.int .u32 0],.int .i64 (r:Int)]) (by simp [results,Tryz.results132,hx0,hx1,hx2,go_sem]) rfl ⟨by rw [HVB.out (by rw [HRQ.out];exact hr0),HRQ.out],?_⟩
    exact ((HM2.out.setCell (p:=⟨w.heap.size,0,none⟩) (Nat.le_refl _) _).setCell (p:=⟨w.heap.size,1,none⟩) (Nat.le_refl _) _).setCell (p:=⟨w.heap.size,2,none⟩) (Nat.le_refl _) _
theorem three_there {bs:List UInt8} {p:Nat} (h:p + 20 ≤ bs.length):threeR bs p = if val ((bs.drop (p + 16)).take 4) = sumN ((bs.drop p).take 16) then 0 else 4:=by
 unfold threeR chkN
 rw [openS_there (by omega),stK_there 3 (by omega),num_there (by omega)]
 simp only [Bool.false_eq_true,if_false]
 have e1:p + 4 + 4 * 3 = p + 16:=by omega
 have e2:p + 16 - p = 16:=by omega
 rw [e1,e2]
theorem three_va {bs:List UInt8} {p k:Nat} (h:p + 20 ≤ bs.length) (hk:k < 3):vaK bs (openS bs p) k = val ((bs.drop (p + 4 + 4 * k)).take 4):=by
 rw [openS_there (by omega),vaK_there (by omega)]
theorem threeB_length (mk:List UInt8) (a b c:Nat) (h:mk.length = 4):(threeB mk a b c).length = 20:=by
 unfold threeB
 rw [sealed_length]
 simp [putN_length,h]
theorem three_back {bs mk:List UInt8} {p a b c:Nat} (hm:mk.length = 4) (ha:a < 4294967296) (hb:b < 4294967296) (hc:c < 4294967296) (h:(bs.drop p).take 20 = threeB mk a b c) :
  p + 20 ≤ bs.length∧(bs.drop p).take 4 = mk∧threeR bs p = 0∧vaK bs (openS bs p) 0 = a∧vaK bs (openS bs p) 1 = b∧vaK bs (openS bs p) 2 = c:=by
 have hl:p + 20 ≤ bs.length:=by
  have:=congrArg List.length h
  rw [threeB_length _ _ _ _ hm,List.length_take,List.length_drop] at this
  omega
 have hX:threeB mk a b c = mk++(putN a 4++(putN b 4++(putN c 4++putN (sumN (mk++putN a 4++putN b 4++putN c 4)) 4))):=by
  unfold threeB sealed
  simp [List.append_assoc]
 have hsum:=sumN_lt (mk++putN a 4++putN b 4++putN c 4)
 have h16:(threeB mk a b c).take 16 = mk++putN a 4++putN b 4++putN c 4:=by
  unfold threeB sealed
  exact app_take (by simp [putN_length,hm])
 have d0:(threeB mk a b c).take 4 = mk:=by rw [hX];exact app_take hm
 have d4:((threeB mk a b c).drop 4).take 4 = putN a 4:=by rw [hX,app_drop hm];exact app_take (putN_length _ _)
 have d8:((threeB mk a b c).drop 8).take 4 = putN b 4:=by
  rw [hX,show (8:Nat) = 4 + 4 from rfl,← List.drop_drop,app_drop hm,app_drop (putN_length _ _)]
  exact app_take (putN_length _ _)
 have d12:((threeB mk a b c).drop 12).take 4 = putN c 4:=by
  rw [hX,show (12:Nat) = 4 + (4 + 4) from rfl,← List.drop_drop,← List.drop_drop,app_drop hm,app_drop (putN_length _ _),app_drop (putN_length _ _)]
  exact app_take (putN_length _ _)
 have d16:((threeB mk a b c).drop 16).take 4 = putN (sumN (mk++putN a 4++putN b 4++putN c 4)) 4:=by
  unfold threeB sealed
  rw [app_drop (by simp [putN_length,hm])]
  exact List.take_of_length_le (by rw [putN_length];omega)
 refine ⟨hl,?_,?_,?_,?_,?_⟩
 ·have:=cut_in (i:=0) (k:=4) h (by omega)
  rwa [Nat.add_zero,List.drop_zero,d0] at this
 ·rw [three_there hl,cut_in (i:=16) (k:=4) h (by omega),d16,val_put4 hsum]
  have:=cut_in (i:=0) (k:=16) h (by omega)
  rw [Nat.add_zero,List.drop_zero,h16] at this
  rw [this,if_pos rfl]
 ·rw [three_va hl (by omega),Nat.mul_zero,Nat.add_zero,cut_in (i:=4) (k:=4) h (by omega),d4,val_put4 ha]
 ·rw [three_va hl (by omega),show p + 4 + 4 * 1 = p + 8 by omega,cut_in (i:=8) (k:=4) h (by omega),d8,val_put4 hb]
 ·rw [three_va hl (by omega),show p + 4 + 4 * 2 = p + 12 by omega,cut_in (i:=12) (k:=4) h (by omega),d12,val_put4 hc]
end Go.Proofs.YtaknladkodibaaaGreatDoor
namespace Go.Proofs.YtaknladkodibaaaGreatDoor
open Go.RowKit FieldP
end Go.Proofs.YtaknladkodibaaaGreatDoor
namespace Go.Proofs.YtaknladkodibaaaGreatDoor
open FieldP
def pcL:Nat→List UInt8→List (List UInt8) × Int
 | 0,_ => ([],2)
 | k + 1,R => if R.length < 2 then ([],2) else if val (R.take 2) = 0 then ([],if R.length = 2 then 0 else 3) else if R.length < 2 + val (R.take 2) then ([],2)
   else ((R.drop 2).take (val (R.take 2)) :: (pcL k (R.drop (2 + val (R.take 2)))).1,(pcL k (R.drop (2 + val (R.take 2)))).2)
def pcA (bs:List UInt8):List (List UInt8) × Int:=pcL (bs.length + 1) bs
theorem pcL_short {k:Nat} {R:List UInt8} (h:R.length < 2):pcL (k + 1) R = ([],2):=by unfold pcL;rw [if_pos h]
theorem pcL_end {k:Nat} {R:List UInt8} (h:¬ R.length < 2) (h0:val (R.take 2) = 0):pcL (k + 1) R = ([],if R.length = 2 then 0 else 3):=by unfold pcL;rw [if_neg h,if_pos h0]
theorem pcL_long {k:Nat} {R:List UInt8} (h:¬ R.length < 2) (h0:val (R.take 2) ≠ 0) (h1:R.length < 2 + val (R.take 2)):pcL (k + 1) R = ([],2):=by unfold pcL;rw [if_neg h,if_neg h0,if_pos h1]
theorem pcL_step {k:Nat} {R:List UInt8} (h:¬ R.length < 2) (h0:val (R.take 2) ≠ 0) (h1:¬ R.length < 2 + val (R.take 2)) :
  pcL (k + 1) R = ((R.drop 2).take (val (R.take 2)) :: (pcL k (R.drop (2 + val (R.take 2)))).1,(pcL k (R.drop (2 + val (R.take 2)))).2):=by
 rw [pcL,if_neg h,if_neg h0,if_neg h1]
def FinP (l:Nat) (st:RSt) (e:Int):Prop:=(st.bad = true∧e = 2) ∨ (st.bad = false∧st.p = l∧e = 0) ∨ (st.bad = false∧st.p < l∧e = 3)
theorem pc_round {bs:List UInt8} {st:RSt} {k:Nat} (hb:st.bad = false) (hp:st.p ≤ bs.length) {n1:Nat} {s1 s2:RSt} {r:List UInt8} (h1:st.num bs 2 = (n1,s1)) (h2:s1.row bs n1 = (r,s2)) :
  (r = []∧(pcL (k + 1) (bs.drop st.p)).1 = []∧FinP bs.length s2 (pcL (k + 1) (bs.drop st.p)).2) ∨
  (r ≠ []∧s2.bad = false∧st.p + 2 + r.length = s2.p∧s2.p ≤ bs.length∧pcL (k + 1) (bs.drop st.p) = (r :: (pcL k (bs.drop s2.p)).1,(pcL k (bs.drop s2.p)).2)):=by
 obtain ⟨p,bad⟩:=st
 dsimp only at hb hp
 subst hb
 have hl:(bs.drop p).length = bs.length - p:=List.length_drop
 by_cases hs:p + 2 ≤ bs.length
 ·simp only [RSt.num,Bool.false_eq_true,if_false,hs,if_true,Prod.mk.injEq] at h1
  obtain ⟨h1,rfl⟩:=h1
  have hshort:¬ (bs.drop p).length < 2:=by omega
  by_cases h0:n1 = 0
  ·left
   have h0':val ((bs.drop p).take 2) = 0:=h1.trans h0
   simp only [RSt.row,Bool.false_eq_true,if_false,h0,Nat.add_zero,hs,if_true,Prod.mk.injEq,List.take_zero] at h2
   obtain ⟨rfl,rfl⟩:=h2
   rw [pcL_end hshort h0']
   refine ⟨rfl,rfl,?_⟩
   show FinP _ _ (if _ then _ else _)
   by_cases he:(bs.drop p).length = 2
   ·rw [if_pos he]
    exact .inr (.inl ⟨rfl,by dsimp only;omega,rfl⟩)
   ·rw [if_neg he]
    exact .inr (.inr ⟨rfl,by dsimp only;omega,rfl⟩)
  ·have h0':val ((bs.drop p).take 2) ≠ 0:=fun e => h0 (h1.symm.trans e)
   by_cases hlong:p + 2 + n1 ≤ bs.length
   ·right
    simp only [RSt.row,Bool.false_eq_true,if_false,hlong,if_true,Prod.mk.injEq] at h2
    obtain ⟨rfl,rfl⟩:=h2
    have hll:((bs.drop (p + 2)).take n1).length = n1:=by rw [List.length_take,List.length_drop];omega
    refine ⟨fun e => ?_,rfl,?_,hlong,?_⟩
    ·rw [e] at hll
     exact h0 hll.symm
    ·rw [hll]
    ·rw [pcL_step hshort h0' (by rw [h1];omega),h1,List.drop_drop,List.drop_drop,Nat.add_assoc]
   ·left
    simp only [RSt.row,Bool.false_eq_true,if_false,hlong,Prod.mk.injEq] at h2
    obtain ⟨rfl,rfl⟩:=h2
    rw [pcL_long hshort h0' (by rw [h1];omega)]
    exact ⟨rfl,rfl,.inl ⟨rfl,rfl⟩⟩
 ·left
  simp only [RSt.num,Bool.false_eq_true,if_false,hs,Prod.mk.injEq] at h1
  obtain ⟨rfl,rfl⟩:=h1
  simp only [RSt.row,if_true,Prod.mk.injEq] at h2
  obtain ⟨rfl,rfl⟩:=h2
  dsimp only
  rw [pcL_short (show (bs.drop p).length < 2 by omega)]
  exact ⟨rfl,rfl,.inl ⟨rfl,rfl⟩⟩
end Go.Proofs.YtaknladkodibaaaGreatDoor
