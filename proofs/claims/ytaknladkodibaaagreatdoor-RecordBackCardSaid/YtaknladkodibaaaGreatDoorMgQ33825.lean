/- The contracts of layer 3's writer: Len, Bytes, Align; slices.Clone; a writer that isn't there; lives. -/
import Derived.Test.YtaknladkodibaaaGreatDoorMgQ338SBitsPut
import Derived.Deep.QuietTactic
import Derived.BigQuiet
import Derived.Test.YtaknladkodibaaaGreatDoorMgQ33802
import Derived.Deep.RegionWith
namespace Go.Proofs.YtaknladkodibaaaGreatDoor
open Go.RowKit BitsP
set_option maxHeartbeats 400000 in
theorem clone_any (A:Option Addr) (l c B:Nat) (bs:List UInt8) (w:World) (hl:bs.length = l) (hm:l ≤ 1099511627776) (hB:B ≤ w.heap.size) (hb:Bytes w B A bs) :
  Calls Tryz.prog 68 #[.slice A l c] w fun e w' => ∃ A' c',e = .returned (.slice A' l c')∧OwnB w' w.heap.size 5 (.slice A' l c') l bs∧Below w.heap.size w w':=by
 have HL:=Lib.hid hl
 have HB:Hid (Bytes w B A bs):=hb
 have hnil:=Lib.run_eql_slice_nil (P:=Tryz.prog) w 25 5 A l c 0 0 Tryz.underlying25
 clear hl hb
 cases A with
 | none =>
  have h0:l = 0:=by
   rcases Nat.eq_zero_or_pos l with h0 | h0
   ·exact h0
   ·obtain ⟨_,_,h,_⟩:=HB.out (by rw [byteCells_length,HL.out];exact h0)
    cases h
  subst h0
  have HN:Hid (bs = []):=List.eq_nil_of_length_eq_zero HL.out
  go_enter Tryz.func68,Tryz.ntmps68
  go_wp2
  go_ret
  exact ⟨none,0,rfl,by rw [HN.out];exact World.ownsRow_nil _ _ _ _,Below.refl _ _⟩
 | some ad =>
  go_enter Tryz.func68,Tryz.ntmps68
  go_wp2_with (at_builtin;refine wpList_app _ byteElem3 rfl (.tmp 5) (.tmp 6) rfl w.heap.size (.slice (some ⟨w.heap.size,0,none⟩) 0 0) 0 [] rfl (own_empty w _ (Nat.le_refl _)) B (some ad) l c (byteCells bs) rfl (by rw [byteCells_length,HL.out,Nat.mul_one]) (HB.out.alloc hB _) (byteCells_one _) (by unfold maxLen;omega) (by omega) (by simp) ?_;intro A1 c1 w1 hA;have HA:=Lib.hid hA;clear hA)
  simp only [Nat.zero_add,List.nil_append] at HA ⊢
  go_ret
  exact ⟨A1,c1,rfl,HA.out.own,HA.out.below ((Below.refl w.heap.size w).alloc (Nat.le_refl _) (.cells #[] 5)) (by simp) (by simp [Value.ownBlock])⟩
set_option maxHeartbeats 400000 in
theorem wbytes_any (g base:Nat) (S:Nat→Prop) (L:List Bool) (w:World) (h:WrS w g base S L) (hL:L.length ≤ 1099511627776) :
  Calls Tryz.prog 67 #[.pointer (some ⟨g,0,none⟩)] w fun e w' => ∃ A c,e = .returned (.slice A (pack L).length c)∧OwnB w' w.heap.size 5 (.slice A (pack L).length c) (pack L).length (pack L)∧Below w.heap.size w w':=by
 obtain ⟨whole,R,hsp,A,c,hb,hown,rfl⟩:=h
 have hlen:=hsp.length
 have HP:=Lib.hid (pack_eq hsp)
 have HB:=Lib.hid hb
 have HOWN:=Lib.hid hown
 obtain ⟨c0,c1,c2,f0,f1,f2⟩:=hb.cells
 clear hsp hb hown f0 f1 f2
 cases R with
 | nil =>
  have HP2:Hid (pack L = whole):=HP.out.trans (pk_nil _)
  go_enter Tryz.func67,Tryz.ntmps67
  go_wp2_with fail
  refine (clone_any A whole.length c w.heap.size whole w rfl (by omega) (Nat.le_refl _) (Cells.of_own HOWN.out)).mono ?_
  rintro e w1 ⟨A1,c1',rfl,hown,hbel⟩
  have HO1:=Lib.hid hown
  have HBEL:=Lib.hid hbel
  have hc2:=hbel.cell (p:=⟨g,2,none⟩) HB.out.lt
  rw [c2] at hc2
  clear hown hbel c0 c1 c2
  go_wp2
  go_ret
  refine ⟨A1,c1',by rw [HP2.out];rfl,by rw [HP2.out];exact HO1.out,HBEL.out⟩
 | cons b0 R =>
  have HP2:Hid (pack L = whole++[UInt8.ofNat (num (b0 :: R))]):=HP.out.trans (pk_some (by simp))
  have hpos:(0:Int) < (((b0 :: R).length:Nat):Int):=by rw [List.length_cons];omega
  generalize num (b0 :: R) = r at *
  generalize (b0 :: R).length = k at *
  go_enter Tryz.func67,Tryz.ntmps67
  go_wp2_with fail
  refine (clone_any A whole.length c w.heap.size whole w rfl (by omega) (Nat.le_refl _) (Cells.of_own HOWN.out)).mono ?_
  rintro e w1 ⟨A1,c1',rfl,hown,hbel⟩
  have HO1:=Lib.hid hown
  have HBEL:=Lib.hid hbel
  have hc2:=hbel.cell (p:=⟨g,2,none⟩) HB.out.lt
  rw [c2] at hc2
  have hc1:=hbel.cell (p:=⟨g,1,none⟩) HB.out.lt
  rw [c1] at hc1
  clear hown hbel c0 c1 c2
  go_wp2_with (at_builtin;refine wpList_app1 _ byteElem3 rfl (.tmp 16) (.tmp 22) rfl w.heap.size (.slice A1 whole.length c1') whole.length _ rfl HO1.out _ rfl rfl (by simp [Value.oneCell']) (by unfold maxLen;omega) (by omega) HBEL.out.size ?_;intro A2 c2' w2 hA;have HA:=Lib.hid hA;clear hA)
  go_ret
  have e1:(pack L).length = whole.length + 1:=by rw [HP2.out,List.length_append];rfl
  have e2:byteCells whole++[Value.int .u8 (IntKind.u8.wrap (r:Int))] = byteCells (pack L):=by
   rw [HP2.out,byteCells_append]
   congr 1
  refine ⟨A2,c2',by rw [e1];rfl,?_,HA.out.below HBEL.out HBEL.out.size (own_base HO1.out)⟩
  have:=HA.out.own
  rw [e1]
  unfold OwnB
  rw [← e2]
  exact this
end Go.Proofs.YtaknladkodibaaaGreatDoor
namespace Go.Proofs.YtaknladkodibaaaGreatDoor
open Go.RowKit BitsP
attribute [local go_sem ↓] Go.wp_at_zero Go.wp_at_succ
def RdB (w:World) (g:Nat) (A:Option Addr) (l c p:Nat):Prop:=w.heap[g]? = some (.cells #[.slice A l c,.int .i64 (p:Int)] 248 (0,0))
theorem RdB.cells {w:World} {g:Nat} {A:Option Addr} {l c p:Nat} (h:RdB w g A l c p):w.cell? ⟨g,0,none⟩ = some (.slice A l c)∧w.cell? ⟨g,1,none⟩ = some (.int .i64 (p:Int))∧w.frozen? ⟨g,1,none⟩ = false :=
 ⟨cell_of_row w g 0 _ _ _ h,cell_of_row w g 1 _ _ _ h,frozen_of_row w g 1 _ _ h⟩
def RdS (w:World) (g base:Nat) (S:Nat→Prop) (bs:List UInt8) (p:Nat):Prop :=
 ∃ A c,RdB w g A bs.length c p∧OwnB w base 5 (.slice A bs.length c) bs.length bs∧S = orS (oneB g) (ownS (.slice A bs.length c))∧p ≤ 8 * bs.length∧bs.length ≤ c
theorem RdS.keep {w w':World} {g base:Nat} {S T:Nat→Prop} {bs:List UInt8} {p:Nat} (h:RdS w g base S bs p) (hm:Mod T w w') (hd:∀ k,S k→¬ T k):RdS w' g base S bs p:=by
 obtain ⟨A,c,hb,hown,rfl,hp,hc⟩:=h
 exact ⟨A,c,hm.keep hb (hd g (.inl rfl)),own_keep hown hm (fun k hk => hd k (.inr hk)),rfl,hp,hc⟩
theorem RdS.lt {w:World} {g base:Nat} {S:Nat→Prop} {bs:List UInt8} {p:Nat} (h:RdS w g base S bs p):∀ k,S k→k < w.heap.size:=by
 obtain ⟨A,c,hb,hown,rfl,hp⟩:=h
 intro k hk
 rcases hk with rfl | hk
 ·exact (Array.getElem?_eq_some_iff.1 hb).1
 ·exact own_lt hown k hk
theorem RdS.drewN {w:World} {g base:Nat} {S:Nat→Prop} {bs:List UInt8} {p:Nat} (h:RdS w g base S bs p) (n:Nat):RdS (w.drewN n) g base S bs p:=h
theorem RdS.move {w:World} {g base:Nat} {S:Nat→Prop} {bs:List UInt8} {p:Nat} (h:RdS w g base S bs p) (q:Nat) (hq:q ≤ 8 * bs.length) (x:Int) (hx:x = (q:Int)):RdS (w.setCell ⟨g,1,none⟩ (.int .i64 x)) g base S bs q:=by
 subst hx
 obtain ⟨A,c,hb,hown,rfl,hp,hc⟩:=h
 refine ⟨A,c,heap_setCell_same w g 1 _ _ _ hb,own_keep hown (S:=oneB g) ((Mod.refl (oneB g) w).set ⟨g,1,none⟩ _ (.inl rfl)) (fun j hj (he:j = g) => own_ne hown hb (by decide) (he ▸ hj)),rfl,hq,hc⟩
theorem own_cap {w:World} {base:Nat} {e:TypeId} {size:Nat} {A:Option Addr} {n c:Nat} {xs:List Value} (h:w.ownsRow base e size (.slice A n c) n xs):n ≤ c:=by
 rcases h.2 with ⟨h1,h2⟩ | ⟨g,cap,cur,h1,_,_,h3,_⟩
 ·omega
 ·injection h1 with _ _ h4
  omega
set_option maxHeartbeats 400000 in
theorem rnew_any (A:Option Addr) (l c B:Nat) (bs:List UInt8) (w:World) (hl:bs.length = l) (hm:l ≤ 1099511627776) (hB:B ≤ w.heap.size) (hb:Bytes w B A bs) :
  Calls Tryz.prog 135 #[.slice A l c] w fun e w' => ∃ g S,e = .returned (.pointer (some ⟨g,0,none⟩))∧RdS w' g w.heap.size S bs 0∧Below w.heap.size w w'∧(∀ k,S k→w.heap.size ≤ k):=by
 have HC:=Lib.hid (clone_any A l c B bs w hl hm hB hb)
 have HL:=Lib.hid hl
 clear hl hb
 go_enter Tryz.func135,Tryz.ntmps135
 go_wp2_with fail
 refine HC.out.mono ?_
 rintro e w1 ⟨A1,c1,rfl,hown,hbel⟩
 rw [← HL.out] at hown ⊢
 have HO:=Lib.hid hown
 have HB:=Lib.hid hbel
 clear hown hbel
 go_wp2
 go_ret
 refine ⟨_,_,rfl,⟨A1,c1,heap_alloc_new w1 _,HO.out.alloc _,rfl,Nat.zero_le _,own_cap HO.out⟩,HB.out.alloc HB.out.size _,fun k hk => ?_⟩
 rcases hk with hk | hk
 ·cases hk;exact HB.out.size
 ·exact own_base HO.out k hk
set_option maxHeartbeats 400000 in
theorem rleft_any (g base:Nat) (S:Nat→Prop) (bs:List UInt8) (p:Nat) (w:World) (h:RdS w g base S bs p) (hm:bs.length ≤ 1099511627776) :
  Calls Tryz.prog 138 #[.pointer (some ⟨g,0,none⟩)] w fun e w' => e = .returned (.int .i64 ((8 * bs.length - p:Nat):Int))∧∃ n,w' = w.drewN n:=by
 obtain ⟨A,c,hb,hown,rfl,hp,hc⟩:=h
 obtain ⟨c0,c1,f1⟩:=hb.cells
 clear hb hown
 have HE:Hid (((8 * bs.length - p:Nat):Int) = 8 * (bs.length:Int) - p):=by show _ = _;omega
 generalize bs.length = l at *
 have hw1:IntKind.i64.wrap (8 * (l:Int)) = 8 * (l:Int):=IntWalk.i64_in _ (by omega)
 have hw2:IntKind.i64.wrap (8 * (l:Int) - (p:Int)) = 8 * (l:Int) - (p:Int):=IntWalk.i64_in _ (by omega)
 go_enter Tryz.func138,Tryz.ntmps138
 go_wp2
 go_quiet (fail)
 clear hw1 hw2
 go_wp2
 go_ret
 exact ⟨ret_int3 HE.out.symm,_,rfl⟩
def fits (p q l:Nat):Bool:=decide (p + q ≤ 8 * l)
def onTo (p q l:Nat):Nat:=if p + q ≤ 8 * l then p + q else p
theorem fits_yes {p q l:Nat} (h:p + q ≤ 8 * l):fits p q l = true∧onTo p q l = p + q:=⟨decide_eq_true h,if_pos h⟩
theorem fits_no {p q l:Nat} (h:¬ p + q ≤ 8 * l):fits p q l = false∧onTo p q l = p:=⟨decide_eq_false h,if_neg h⟩
set_option maxRecDepth 100000 in
set_option maxHeartbeats 400000 in
theorem rskip_any (g base:Nat) (S:Nat→Prop) (bs:List UInt8) (p:Nat) (b:Int) (w:World) (h:RdS w g base S bs p) (hm:bs.length ≤ 1099511627776) (b0:-9223372036854775808 ≤ b) (b1:b ≤ 9223372036854775807) :
  Calls Tryz.prog 245 #[.pointer (some ⟨g,0,none⟩),.int .i64 b] w fun e w' => e = .returned (.bool (fits p (cnt b) bs.length))∧RdS w' g base S bs (onTo p (cnt b) bs.length)∧Mod (oneB g) w w':=by
 have HS:Hid (RdS w g base S bs p):=h
 have HLEFT:=Lib.hid (rleft_any g base S bs p w h hm)
 obtain ⟨A,c,hb,hown,rfl,hp,hc⟩:=h
 obtain ⟨c0,c1,f1⟩:=hb.cells
 have HCNT:=Lib.hid (fun W => count3_any b W b0 b1)
 have hq:=cnt_le b
 clear hb hown c0 hc b0 b1
 generalize cnt b = q at *
 by_cases hfit:p + q ≤ 8 * bs.length
 ·have hd:decide (8 * bs.length - p < q) = false:=by simp;omega
  have HF:=Lib.hid (fits_yes hfit).1
  have HIF:=Lib.hid (fits_yes hfit).2
  have HFIT:=Lib.hid hfit
  generalize 8 * bs.length - p = lf at *
  have hpb:(p:Int) ≤ 8796093022208:=by omega
  clear hfit hp
  go_enter Tryz.func245,Tryz.ntmps245
  go_wp2_with (first | (go_at_call 176;refine (HCNT.out _).mono ?_;rintro e w' ⟨rfl,rfl⟩) | (go_at_call 138;refine HLEFT.out.mono ?_;rintro e w' ⟨rfl,nd,rfl⟩))
  have hc1:(w.drewN nd).cell? ⟨g,1,none⟩ = some (.int .i64 (p:Int)):=c1
  have hf1:(w.drewN nd).frozen? ⟨g,1,none⟩ = false:=f1
  have HS1:=Lib.hid (HS.out.drewN nd)
  have HM1:=Lib.hid ((Mod.refl (oneB g) w).drewN nd)
  clear c1 f1 HS HLEFT hd
  generalize w.drewN nd = w1 at *
  have hw:IntKind.i64.wrap ((p:Int) + (q:Int)) = (p:Int) + q:=IntWalk.i64_in _ (by omega)
  go_still_tail 9,(by kernel_rfl)
  still_call (still_of (HCNT.out _))
  repeat still_step
  refine wpStill_nil ?_
  change wpList _ _ _ _ _ w1.drew
  have hf2:w1.drew.frozen? ⟨g,1,none⟩ = false:=hf1
  have hc2:w1.drew.cell? ⟨g,1,none⟩ = some (.int .i64 (p:Int)):=hc1
  have HS2:Hid (RdS w1.drew g base _ bs p):=HS1.out
  have HM2:=Lib.hid HM1.out.drew
  clear hc1 hf1 HS1 HM1
  generalize w1.drew = w2 at *
  go_wp2
  go_ret
  exact ⟨by rw [HF.out];rfl,by rw [HIF.out];exact HS2.out.move (p + q) HFIT.out _ (by omega),HM2.out.set _ _ (.inl rfl)⟩
 ·have hd:decide (8 * bs.length - p < q) = true:=by simp;omega
  have HF:=Lib.hid (fits_no hfit).1
  have HIF:=Lib.hid (fits_no hfit).2
  generalize 8 * bs.length - p = lf at *
  clear hfit hp
  go_enter Tryz.func245,Tryz.ntmps245
  go_wp2_with (first | (go_at_call 176;refine (HCNT.out _).mono ?_;rintro e w' ⟨rfl,rfl⟩) | (go_at_call 138;refine HLEFT.out.mono ?_;rintro e w' ⟨rfl,nd,rfl⟩))
  go_ret
  exact ⟨by rw [HF.out];rfl,by rw [HIF.out];exact HS.out.drewN nd,(Mod.refl (oneB g) w).drewN nd⟩
theorem or_byte64 {m:Nat} (x s:Nat) (hs:s ≤ 32) (hm:m < 2 ^ s) (hx:x < 256):bits .or .u64 (m:Int) ((x:Int) * 2 ^ s) = ((m + 2 ^ s * x:Nat):Int):=by
 have h1:2 ^ s ≤ 2 ^ 32:=Nat.pow_le_pow_right (by omega) hs
 have h2:2 ^ s * x ≤ 2 ^ 32 * 255:=Nat.mul_le_mul h1 (by omega)
 have e:(x:Int) * 2 ^ s = ((2 ^ s * x:Nat):Int):=by rw [Nat.mul_comm];simp
 rw [e,u64_or_nat _ _ (by omega) (by omega),Nat.or_comm,← Nat.two_pow_add_eq_or_of_lt hm,Nat.add_comm]
theorem or_byte64_0 {m x:Nat} (hm:m < 2 ^ 0) (hx:x < 256):bits .or .u64 (m:Int) (x:Int) = ((m + 2 ^ 0 * x:Nat):Int):=by
 have h:=or_byte64 x 0 (by omega) hm hx
 rwa [Int.pow_zero,Int.mul_one] at h
set_option maxRecDepth 100000 in
set_option maxHeartbeats 1000000 in
theorem rpeek_any (g base:Nat) (S:Nat→Prop) (bs:List UInt8) (p:Nat) (b:Int) (w:World) (h:RdS w g base S bs p) (hm:bs.length ≤ 1099511627776) (b0:-9223372036854775808 ≤ b) (b1:b ≤ 9223372036854775807) :
  Calls Tryz.prog 139 #[.pointer (some ⟨g,0,none⟩),.int .i64 b] w fun e w' => e = .returned (.int .u32 (num (((unpack bs).drop p).take (cnt b)):Nat))∧∃ n,w' = w.drewN n:=by
 obtain ⟨A,c,hb,hown,rfl,hp,hc⟩:=h
 obtain ⟨c0,c1,f1⟩:=hb.cells
 have HCNT:=Lib.hid (fun W => count3_any b W b0 b1)
 have hq:=cnt_le b
 have HBY:=Lib.hid (Cells.of_own hown)
 obtain ⟨f,r,hpf,hr⟩:∃ f r:Nat,p = 8 * f + r∧r < 8:=⟨p / 8,p % 8,by omega,by omega⟩
 have HP:=Lib.hid (peek_eq bs p (cnt b) f r hpf hr hq)
 have HVL:Hid (num (((unpack bs).drop p).take (cnt b)) < 4294967296):=Nat.lt_of_lt_of_le (num_from_lt _ _ _) (p2_lt32 hq)
 have hf:(p:Int) / 8 = (f:Int):=by omega
 have hr':(p:Int) % 8 = (r:Int):=by omega
 have hfl:f ≤ bs.length:=by omega
 clear hb hown f1 b0 b1 hpf
 generalize cnt b = q at *
 by_cases h5:f + 5 ≤ bs.length
 ·obtain ⟨b',o,rfl,hbB,hcell⟩:=HBY.out (by rw [byteCells_length];omega)
  have hmk:True:=trivial
  go_enter Tryz.func139,Tryz.ntmps139
  go_wp2
  have hmul:∀ k:Nat,k < 5→k = 0 ∨ k = 1 ∨ k = 2 ∨ k = 3 ∨ k = 4:=by omega
  have HMUL:=Lib.hid hmul
  clear hmul
  go_loopg [7,8,9,33] (5) (fun gk n _ _ i wr => ∃ k:Nat,k + gk = 5∧i = .int .i64 k∧n = .int .u64 (num (unpack (((bs.drop f).take 5).take k)):Nat)∧wr = w)
  case atStart => exact ⟨0,by omega,rfl,by simp [unpack,num],rfl⟩
  case round =>
   obtain ⟨k,hk,rfl,rfl,rfl⟩:=hrel
   by_cases hkm:k < 5
   ·have hk5:=HMUL.out k (by omega)
    obtain ⟨x,hxk⟩:=get_lt (bs:=(bs.drop f).take 5) (k:=k) (by rw [List.length_take,List.length_drop];omega)
    have HS:=Lib.hid (num_unpack_snoc _ k x hxk)
    have hvl:=num_unpack_lt ((bs.drop f).take 5) k
    have hxb:bs[f + k]? = some x:=by
     rw [List.getElem?_take_of_lt (by omega),List.getElem?_drop] at hxk
     exact hxk
    have hcc:=hcell (f + k) _ (byteCells_get hxb)
    have hx:x.toNat < 256:=UInt8.toNat_lt x
    rw [← Nat.add_assoc] at hcc
    clear hxk hxb hmk
    generalize num (unpack (((bs.drop f).take 5).take k)) = m at *
    generalize x.toNat = x at *
    rcases hk5 with rfl | rfl | rfl | rfl | rfl
    ·have hv:m < 2 ^ 0:=by rw [p2_pow] at hvl;exact hvl
     have HE:Hid (p2 (8 * 0) = 2 ^ 0):=p2_pow _
     clear hvl
     rw [Nat.add_zero] at hcc
     go_wp2
     go_roundg (gk - 1)
     case measure => omega
     case rel => exact ⟨1,by omega,by go_num,by rw [HS.out,HE.out];exact congrArg _ (or_byte64_0 hv hx),rfl⟩
    ·have hv:m < 2 ^ 8:=by rw [p2_pow] at hvl;exact hvl
     have HE:Hid (p2 (8 * 1) = 2 ^ 8):=p2_pow _
     clear hvl
     go_wp2
     go_roundg (gk - 1)
     case measure => omega
     case rel => exact ⟨2,by omega,by go_num,by rw [HS.out,HE.out];exact congrArg _ (or_byte64 x 8 (by omega) hv hx),rfl⟩
    ·have hv:m < 2 ^ 16:=by rw [p2_pow] at hvl;exact hvl
     have HE:Hid (p2 (8 * 2) = 2 ^ 16):=p2_pow _
     clear hvl
     go_wp2
     go_roundg (gk - 1)
     case measure => omega
     case rel => exact ⟨3,by omega,by go_num,by rw [HS.out,HE.out];exact congrArg _ (or_byte64 x 16 (by omega) hv hx),rfl⟩
    ·have hv:m < 2 ^ 24:=by rw [p2_pow] at hvl;exact hvl
     have HE:Hid (p2 (8 * 3) = 2 ^ 24):=p2_pow _
     clear hvl
     go_wp2
     go_roundg (gk - 1)
     case measure => omega
     case rel => exact ⟨4,by omega,by go_num,by rw [HS.out,HE.out];exact congrArg _ (or_byte64 x 24 (by omega) hv hx),rfl⟩
    ·have hv:m < 2 ^ 32:=by rw [p2_pow] at hvl;exact hvl
     have HE:Hid (p2 (8 * 4) = 2 ^ 32):=p2_pow _
     clear hvl
     go_wp2
     go_roundg (gk - 1)
     case measure => omega
     case rel => exact ⟨5,by omega,by go_num,by rw [HS.out,HE.out];exact congrArg _ (or_byte64 x 32 (by omega) hv hx),rfl⟩
   ·obtain rfl:k = 5:=by omega
    have HTK:Hid (((bs.drop f).take 5).take (5) = (bs.drop f).take 5):=List.take_of_length_le (by rw [List.length_take,List.length_drop];omega)
    rw [HTK.out]
    have HM:Hid (num (unpack ((bs.drop f).take 5)) < 1099511627776):=by
     have h1:=num_lt (unpack ((bs.drop f).take 5))
     rw [unpack_length,List.length_take,List.length_drop] at h1
     exact Nat.lt_of_lt_of_le h1 (p2_le (show 8 * min 5 (bs.length - f) ≤ 40 by omega))
    generalize num (unpack ((bs.drop f).take 5)) = m at *
    have hsr:(m:Int) / 2 ^ r = ((m / p2 r:Nat):Int):=by rw [p2_pow];simp
    have hmr:m / p2 r ≤ m:=Nat.div_le_self _ _
    have hvl:=HVL.out
    generalize m / p2 r = y at *
    have HLOW:=Lib.hid (fun W => low_any (y:Int) q W (Int.natCast_nonneg _) (by have:=HM.out;omega) hq)
    rw [Int.toNat_natCast,HP.out] at HLOW
    generalize hz0:num (((unpack bs).drop p).take q) = z at *
    have HZ:=Lib.hid hz0
    clear hz0
    clear hmk hmr
    go_wp2
    go_quiet (first | (go_at_call 176;exact quiet_left' (HCNT.out _)) | (go_at_call 175;exact quiet_left' (HLOW.out _)))
    have hz:IntKind.u32.wrap (z:Int) = (z:Int):=IntWalk.u32_in _ (by omega)
    go_wp2
    go_ret
    exact ⟨by rw [HZ.out];rfl,_,rfl⟩
 by_cases hfl2:f < bs.length
 ·obtain ⟨b',o,rfl,hbB,hcell⟩:=HBY.out (by rw [byteCells_length];omega)
  have hmk:True:=trivial
  go_enter Tryz.func139,Tryz.ntmps139
  go_wp2
  have hmul:∀ k:Nat,k < 5→k = 0 ∨ k = 1 ∨ k = 2 ∨ k = 3 ∨ k = 4:=by omega
  have HMUL:=Lib.hid hmul
  clear hmul
  go_loopg [7,8,9,33] (bs.length - f) (fun gk n _ _ i wr => ∃ k:Nat,k + gk = bs.length - f∧i = .int .i64 k∧n = .int .u64 (num (unpack (((bs.drop f).take 5).take k)):Nat)∧wr = w)
  case atStart => exact ⟨0,by omega,rfl,by simp [unpack,num],rfl⟩
  case round =>
   obtain ⟨k,hk,rfl,rfl,rfl⟩:=hrel
   by_cases hkm:k < bs.length - f
   ·have hk5:=HMUL.out k (by omega)
    obtain ⟨x,hxk⟩:=get_lt (bs:=(bs.drop f).take 5) (k:=k) (by rw [List.length_take,List.length_drop];omega)
    have HS:=Lib.hid (num_unpack_snoc _ k x hxk)
    have hvl:=num_unpack_lt ((bs.drop f).take 5) k
    have hxb:bs[f + k]? = some x:=by
     rw [List.getElem?_take_of_lt (by omega),List.getElem?_drop] at hxk
     exact hxk
    have hcc:=hcell (f + k) _ (byteCells_get hxb)
    have hx:x.toNat < 256:=UInt8.toNat_lt x
    rw [← Nat.add_assoc] at hcc
    clear hxk hxb hmk
    generalize num (unpack (((bs.drop f).take 5).take k)) = m at *
    generalize x.toNat = x at *
    rcases hk5 with rfl | rfl | rfl | rfl | rfl
    ·have hv:m < 2 ^ 0:=by rw [p2_pow] at hvl;exact hvl
     have HE:Hid (p2 (8 * 0) = 2 ^ 0):=p2_pow _
     clear hvl
     rw [Nat.add_zero] at hcc
     go_wp2
     go_roundg (gk - 1)
     case measure => omega
     case rel => exact ⟨1,by omega,by go_num,by rw [HS.out,HE.out];exact congrArg _ (or_byte64_0 hv hx),rfl⟩
    ·have hv:m < 2 ^ 8:=by rw [p2_pow] at hvl;exact hvl
     have HE:Hid (p2 (8 * 1) = 2 ^ 8):=p2_pow _
     clear hvl
     go_wp2
     go_roundg (gk - 1)
     case measure => omega
     case rel => exact ⟨2,by omega,by go_num,by rw [HS.out,HE.out];exact congrArg _ (or_byte64 x 8 (by omega) hv hx),rfl⟩
    ·have hv:m < 2 ^ 16:=by rw [p2_pow] at hvl;exact hvl
     have HE:Hid (p2 (8 * 2) = 2 ^ 16):=p2_pow _
     clear hvl
     go_wp2
     go_roundg (gk - 1)
     case measure => omega
     case rel => exact ⟨3,by omega,by go_num,by rw [HS.out,HE.out];exact congrArg _ (or_byte64 x 16 (by omega) hv hx),rfl⟩
    ·have hv:m < 2 ^ 24:=by rw [p2_pow] at hvl;exact hvl
     have HE:Hid (p2 (8 * 3) = 2 ^ 24):=p2_pow _
     clear hvl
     go_wp2
     go_roundg (gk - 1)
     case measure => omega
     case rel => exact ⟨4,by omega,by go_num,by rw [HS.out,HE.out];exact congrArg _ (or_byte64 x 24 (by omega) hv hx),rfl⟩
    ·exact absurd hkm (by omega)
   ·obtain rfl:k = bs.length - f:=by omega
    have HTK:Hid (((bs.drop f).take 5).take (bs.length - f) = (bs.drop f).take 5):=List.take_of_length_le (by rw [List.length_take,List.length_drop];omega)
    rw [HTK.out]
    have HM:Hid (num (unpack ((bs.drop f).take 5)) < 1099511627776):=by
     have h1:=num_lt (unpack ((bs.drop f).take 5))
     rw [unpack_length,List.length_take,List.length_drop] at h1
     exact Nat.lt_of_lt_of_le h1 (p2_le (show 8 * min 5 (bs.length - f) ≤ 40 by omega))
    generalize num (unpack ((bs.drop f).take 5)) = m at *
    have hsr:(m:Int) / 2 ^ r = ((m / p2 r:Nat):Int):=by rw [p2_pow];simp
    have hmr:m / p2 r ≤ m:=Nat.div_le_self _ _
    have hvl:=HVL.out
    generalize m / p2 r = y at *
    have HLOW:=Lib.hid (fun W => low_any (y:Int) q W (Int.natCast_nonneg _) (by have:=HM.out;omega) hq)
    rw [Int.toNat_natCast,HP.out] at HLOW
    generalize hz0:num (((unpack bs).drop p).take q) = z at *
    have HZ:=Lib.hid hz0
    clear hz0
    clear hmk hmr
    go_wp2
    go_quiet (first | (go_at_call 176;exact quiet_left' (HCNT.out _)) | (go_at_call 175;exact quiet_left' (HLOW.out _)))
    have hz:IntKind.u32.wrap (z:Int) = (z:Int):=IntWalk.u32_in _ (by omega)
    go_wp2
    go_ret
    exact ⟨by rw [HZ.out];rfl,_,rfl⟩
 ·by_cases hcf:c = f
  ·replace hcf:=hcf.symm
   subst hcf
   have hmk:True:=trivial
   go_enter Tryz.func139,Tryz.ntmps139
   go_wp2
   have hmul:∀ k:Nat,k < 5→k = 0 ∨ k = 1 ∨ k = 2 ∨ k = 3 ∨ k = 4:=by omega
   have HMUL:=Lib.hid hmul
   clear hmul
   go_loopg [7,8,9,33] (0) (fun gk n _ _ i wr => ∃ k:Nat,k + gk = 0∧i = .int .i64 k∧n = .int .u64 (num (unpack (((bs.drop f).take 5).take k)):Nat)∧wr = w)
   case atStart => exact ⟨0,by omega,rfl,by simp [unpack,num],rfl⟩
   case round =>
    obtain ⟨k,hk,rfl,rfl,rfl⟩:=hrel
    obtain rfl:k = 0:=by omega
    have HTK:Hid (((bs.drop f).take 5).take (0) = (bs.drop f).take 5):=List.take_of_length_le (by rw [List.length_take,List.length_drop];omega)
    rw [HTK.out]
    have HM:Hid (num (unpack ((bs.drop f).take 5)) < 1099511627776):=by
     have h1:=num_lt (unpack ((bs.drop f).take 5))
     rw [unpack_length,List.length_take,List.length_drop] at h1
     exact Nat.lt_of_lt_of_le h1 (p2_le (show 8 * min 5 (bs.length - f) ≤ 40 by omega))
    generalize num (unpack ((bs.drop f).take 5)) = m at *
    have hsr:(m:Int) / 2 ^ r = ((m / p2 r:Nat):Int):=by rw [p2_pow];simp
    have hmr:m / p2 r ≤ m:=Nat.div_le_self _ _
    have hvl:=HVL.out
    generalize m / p2 r = y at *
    have HLOW:=Lib.hid (fun W => low_any (y:Int) q W (Int.natCast_nonneg _) (by have:=HM.out;omega) hq)
    rw [Int.toNat_natCast,HP.out] at HLOW
    generalize hz0:num (((unpack bs).drop p).take q) = z at *
    have HZ:=Lib.hid hz0
    clear hz0
    clear hmk hmr
    go_wp2
    go_quiet (first | (go_at_call 176;exact quiet_left' (HCNT.out _)) | (go_at_call 175;exact quiet_left' (HLOW.out _)))
    have hz:IntKind.u32.wrap (z:Int) = (z:Int):=IntWalk.u32_in _ (by omega)
    go_wp2
    go_ret
    exact ⟨by rw [HZ.out];rfl,_,rfl⟩
  ·have hmk:True:=trivial
   go_enter Tryz.func139,Tryz.ntmps139
   go_wp2
   have hmul:∀ k:Nat,k < 5→k = 0 ∨ k = 1 ∨ k = 2 ∨ k = 3 ∨ k = 4:=by omega
   have HMUL:=Lib.hid hmul
   clear hmul
   go_loopg [7,8,9,33] (0) (fun gk n _ _ i wr => ∃ k:Nat,k + gk = 0∧i = .int .i64 k∧n = .int .u64 (num (unpack (((bs.drop f).take 5).take k)):Nat)∧wr = w)
   case atStart => exact ⟨0,by omega,rfl,by simp [unpack,num],rfl⟩
   case round =>
    obtain ⟨k,hk,rfl,rfl,rfl⟩:=hrel
    obtain rfl:k = 0:=by omega
    have HTK:Hid (((bs.drop f).take 5).take (0) = (bs.drop f).take 5):=List.take_of_length_le (by rw [List.length_take,List.length_drop];omega)
    rw [HTK.out]
    have HM:Hid (num (unpack ((bs.drop f).take 5)) < 1099511627776):=by
     have h1:=num_lt (unpack ((bs.drop f).take 5))
     rw [unpack_length,List.length_take,List.length_drop] at h1
     exact Nat.lt_of_lt_of_le h1 (p2_le (show 8 * min 5 (bs.length - f) ≤ 40 by omega))
    generalize num (unpack ((bs.drop f).take 5)) = m at *
    have hsr:(m:Int) / 2 ^ r = ((m / p2 r:Nat):Int):=by rw [p2_pow];simp
    have hmr:m / p2 r ≤ m:=Nat.div_le_self _ _
    have hvl:=HVL.out
    generalize m / p2 r = y at *
    have HLOW:=Lib.hid (fun W => low_any (y:Int) q W (Int.natCast_nonneg _) (by have:=HM.out;omega) hq)
    rw [Int.toNat_natCast,HP.out] at HLOW
    generalize hz0:num (((unpack bs).drop p).take q) = z at *
    have HZ:=Lib.hid hz0
    clear hz0
    clear hmk hmr
    go_wp2
    go_quiet (first | (go_at_call 176;exact quiet_left' (HCNT.out _)) | (go_at_call 175;exact quiet_left' (HLOW.out _)))
    have hz:IntKind.u32.wrap (z:Int) = (z:Int):=IntWalk.u32_in _ (by omega)
    go_wp2
    go_ret
    exact ⟨by rw [HZ.out];rfl,_,rfl⟩
def takes (bs:List UInt8) (p q:Nat):Nat:=if p + q ≤ 8 * bs.length then num (((unpack bs).drop p).take q) else 0
theorem takes_yes {bs:List UInt8} {p q:Nat} (h:p + q ≤ 8 * bs.length):takes bs p q = num (((unpack bs).drop p).take q):=if_pos h
theorem takes_no {bs:List UInt8} {p q:Nat} (h:¬ p + q ≤ 8 * bs.length):takes bs p q = 0:=if_neg h
set_option maxHeartbeats 400000 in
theorem rtake_any (g base:Nat) (S:Nat→Prop) (bs:List UInt8) (p:Nat) (b:Int) (w:World) (h:RdS w g base S bs p) (hm:bs.length ≤ 1099511627776) (b0:-9223372036854775808 ≤ b) (b1:b ≤ 9223372036854775807) :
  Calls Tryz.prog 228 #[.pointer (some ⟨g,0,none⟩),.int .i64 b] w fun e w' => e = .returned (.tuple #[.int .u32 (takes bs p (cnt b):Nat),.bool (fits p (cnt b) bs.length)])∧RdS w' g base S bs (onTo p (cnt b) bs.length)∧Mod (oneB g) w w':=by
 have HP:=Lib.hid (rpeek_any g base S bs p b w h hm b0 b1)
 have HSK:=Lib.hid (fun W hW => rskip_any g base S bs p b W hW hm b0 b1)
 have HS:Hid (RdS w g base S bs p):=h
 clear h b0 b1
 generalize cnt b = q at *
 by_cases hfit:p + q ≤ 8 * bs.length
 ·have HF:=Lib.hid (fits_yes hfit).1
  have HT:=Lib.hid (takes_yes hfit)
  have hf:=(fits_yes hfit).1
  rw [← HT.out] at HP
  generalize takes bs p q = z at *
  go_enter Tryz.func228,Tryz.ntmps228
  go_wp2_with fail
  refine HP.out.mono ?_
  rintro e w1 ⟨rfl,nd,rfl⟩
  go_wp2_with fail
  refine (HSK.out _ (HS.out.drewN nd)).mono ?_
  rintro e w2 ⟨rfl,hr,hmod⟩
  have HR:=Lib.hid hr
  have HM:=Lib.hid (((Mod.refl (oneB g) w).drewN nd).then_ hmod)
  clear hr hmod
  go_wp2
  go_ret2
  exact ⟨by rw [HF.out];rfl,HR.out,HM.out⟩
 ·have HF:=Lib.hid (fits_no hfit).1
  have HT:=Lib.hid (takes_no hfit)
  have hf:=(fits_no hfit).1
  go_enter Tryz.func228,Tryz.ntmps228
  go_wp2_with fail
  refine HP.out.mono ?_
  rintro e w1 ⟨rfl,nd,rfl⟩
  go_wp2_with fail
  refine (HSK.out _ (HS.out.drewN nd)).mono ?_
  rintro e w2 ⟨rfl,hr,hmod⟩
  have HR:=Lib.hid hr
  have HM:=Lib.hid (((Mod.refl (oneB g) w).drewN nd).then_ hmod)
  clear hr hmod
  go_wp2
  go_ret2
  exact ⟨by rw [HF.out,HT.out];rfl,HR.out,HM.out⟩
end Go.Proofs.YtaknladkodibaaaGreatDoor
namespace Go.Proofs.YtaknladkodibaaaGreatDoor
open Go.RowKit BitsP
end Go.Proofs.YtaknladkodibaaaGreatDoor
namespace Go.Proofs.YtaknladkodibaaaGreatDoor
open Go.RowKit BitsP
attribute [local go_sem ↓] Go.wp_at_zero Go.wp_at_succ
theorem WrS.keep {w w':World} {g base:Nat} {S T:Nat→Prop} {L:List Bool} (h:WrS w g base S L) (hm:Mod T w w') (hd:∀ k,S k→¬ T k):WrS w' g base S L:=by
 obtain ⟨whole,R,hsp,A,c,hb,hown,rfl⟩:=h
 exact ⟨whole,R,hsp,A,c,hm.keep hb (hd g (.inl rfl)),own_keep hown hm (fun k hk => hd k (.inr hk)),rfl⟩
theorem WrS.lt {w:World} {g base:Nat} {S:Nat→Prop} {L:List Bool} (h:WrS w g base S L):∀ k,S k→k < w.heap.size:=by
 obtain ⟨whole,R,hsp,A,c,hb,hown,rfl⟩:=h
 intro k hk
 rcases hk with rfl | hk
 ·exact hb.lt
 ·exact own_lt hown k hk
def zeroWr:Array Value:=#[.slice none 0 0,.int .u64 0,.int .i64 0]
theorem ownS_nil (k:Nat):¬ ownS (.slice none 0 0) k:=fun h => by cases h
theorem WrS.zero {w:World} {g:Nat} (base:Nat) (h:w.heap[g]? = some (.cells zeroWr 114 (0,0))):WrS w g base (oneB g) []:=by
 refine ⟨[],[],Split.nil,none,0,h,World.ownsRow_nil _ _ _ _,?_⟩
 funext k
 apply propext
 exact ⟨fun h => .inl h,fun h => h.elim id fun h => absurd h (ownS_nil k)⟩
theorem str_any (w:World) (A:Option Addr) (l c B:Nat) (bs:List UInt8) (h:Bytes w B A bs) (hl:bs.length = l):(convert 25 9 (.slice A l c)).run Tryz.prog w = .ok (.string ⟨bs.toArray⟩) w :=
 run_string_of 25 9 5 Tryz.underlying25 Tryz.underlying5 Tryz.underlying9 h hl
end Go.Proofs.YtaknladkodibaaaGreatDoor
