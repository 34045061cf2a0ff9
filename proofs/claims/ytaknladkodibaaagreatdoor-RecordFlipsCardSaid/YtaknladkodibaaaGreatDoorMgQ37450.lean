/- Layer 14, plainly: tokens of a block that was taken are expanded, and to as many bytes. -/
import Derived.Test.YtaknladkodibaaaGreatDoorMgQ37449
import Derived.Test.YtaknladkodibaaaGreatDoorMgQ37408
import Derived.Test.YtaknladkodibaaaGreatDoorMgQ37439
import Derived.Test.YtaknladkodibaaaGreatDoorMgQ37437
import Derived.Test.YtaknladkodibaaaGreatDoorMgQ37441
import Derived.Test.YtaknladkodibaaaGreatDoorMgQ37435
import Derived.Test.YtaknladkodibaaaGreatDoorMgQ37416
import Derived.Test.YtaknladkodibaaaGreatDoorMgQ37424
import Derived.Test.YtaknladkodibaaaGreatDoorMgQ37428
import Derived.Test.YtaknladkodibaaaGreatDoorMgQ374SStG
namespace Go.Proofs.YtaknladkodibaaaGreatDoor
open BitsP SymP
theorem expE_app {most : Int} : ∀ (L1 L2 : List Ti) (out o1 : List UInt8),expE most L1 out = (0,o1) → expE most (L1 ++ L2) out = expE most L2 o1
 | [],L2,out,o1,h => by
  rw [expE] at h
  rw [List.nil_append,← (Prod.mk.inj h).2]
 | t :: L1,L2,out,o1,h => by
  rw [expE] at h
  rw [List.cons_append,expE]
  split at h
  ·cases (Prod.mk.inj h).1
  ·rename_i h1
   split at h
   ·cases (Prod.mk.inj h).1
   ·rename_i h2
    rw [if_neg h1,if_neg h2]
    exact expE_app L1 L2 _ o1 h
theorem ti_szT (t : Tk) : szT (ti t) = (max t.2.1 1 : Nat) := by
 unfold szT ti
 dsimp only
 split <;> omega
theorem joinR_okX {n1 b1 : Int} {x1 : Nat} {n2 b2 : Int} {x2 : Nat} {m : Bool} {y l d : Nat} (h : joinR n1 b1 x1 n2 b2 x2 m = some (y,l,d)) : okX (ti (UInt8.ofNat y,l,d)) = true := by
 unfold joinR at h
 split at h
 ·split at h
  ·simp only [Option.some.injEq,Prod.mk.injEq] at h
   obtain ⟨_,rfl,rfl⟩ := h
   rfl
  ·cases h
 ·split at h
  ·rename_i hc
   simp only [Option.some.injEq,Prod.mk.injEq] at h
   obtain ⟨rfl,rfl,rfl⟩ := h
   have h1 : vN (n1 - 257) b1 x1 < 256 := valC_low (by omega)
   have h2 := vN_lt n2 b2 x2
   unfold okX ti
   dsimp only
   rw [if_neg (by omega)]
   simp
   omega
  ·cases h
theorem blkL_exp {F : List Int → List Bool → Int × Int × Nat} {z1 z2 : List Int} {L : List Bool} {most : Int} : ∀ (k : Nat) (pre : List Tk) (size p : Nat) (ts : List Tk) (q : Nat),blkL F z1 z2 L most k pre size p = (0,ts,q) →
  (∃ out,expE most (pre.map ti) [] = (0,out) ∧ out.length = size) → size = szs pre → ∃ out,expE most (ts.map ti) [] = (0,out) ∧ out.length = szs ts
 | 0,pre,size,p,ts,q,h,_,_ => by
  rw [blkL] at h
  cases (Prod.mk.inj h).1
 | k + 1,pre,size,p,ts,q,h,⟨out,ho,hl⟩,hs => by
  rw [blkL] at h
  split at h
  ·rename_i h1
   exact absurd (Prod.mk.inj h).1 h1
  split at h
  ·have h2 := (Prod.mk.inj (Prod.mk.inj h).2).1
   subst h2
   exact ⟨out,ho,by rw [hl,hs]⟩
  split at h
  ·rename_i h1
   exact absurd (Prod.mk.inj h).1 h1.2
  split at h
  ·cases (Prod.mk.inj h).1
  ·rename_i y l d hj
   split at h
   ·cases (Prod.mk.inj h).1
   rename_i hd
   split at h
   ·cases (Prod.mk.inj h).1
   rename_i hm
   have hok : okX (ti (UInt8.ofNat y,l,d)) = true := by
    split at hj
    ·exact joinR_okX hj
    ·exact joinR_okX hj
   have hsz := ti_szT (UInt8.ofNat y,l,d)
   dsimp only at hsz
   refine blkL_exp k (pre ++ [(UInt8.ofNat y,l,d)]) (size + max l 1) _ ts q h ⟨putT (ti (UInt8.ofNat y,l,d)) out,?_,?_⟩ ?_
   ·rw [List.map_append,expE_app _ _ _ _ ho]
    show expE most [ti (UInt8.ofNat y,l,d)] out = _
    rw [expE,if_neg (by rw [hok];simp;show ((d : Nat) : Int) ≤ (out.length : Int);omega),if_neg (by rw [hsz,hl];omega),expE]
   ·have h3 := putT_len out hok
    rw [hsz,hl] at h3
    omega
   ·rw [szs_snoc,← hs]
theorem blkF_exp {F : List Int → List Bool → Int × Int × Nat} {L : List Bool} {p : Nat} {most : Int} {ts : List Tk} {q : Nat} (h : blkF F L p most = (0,ts,q)) : ∃ out,expE most (ts.map ti) [] = (0,out) ∧ out.length = szs ts := by
 unfold blkF at h
 split at h
 ·rename_i h1
  exact absurd (Prod.mk.inj h).1 h1
 split at h
 ·rename_i h1
  exact absurd (Prod.mk.inj h).1 h1
 split at h
 ·cases (Prod.mk.inj h).1
 split at h
 ·cases (Prod.mk.inj h).1
 exact blkL_exp _ [] 0 _ ts q h ⟨[],rfl,rfl⟩ rfl
end Go.Proofs.YtaknladkodibaaaGreatDoor
namespace Go.Proofs.YtaknladkodibaaaGreatDoor
open Go.RowKit BitsP SymP
theorem LCa.below_ {w w' : World} {n g : Nat} {zs : List Int} (h : LCa w n g zs) (hb : Below w.heap.size w w') : LCa w' n g zs := h.keep2 (Mod.of_below hb) (fun _ h => h.elim)
set_option maxRecDepth 100000 in
set_option maxHeartbeats 2000000 in
theorem blktake_any (F : List Int → List Bool → Int × Int × Nat) (hF : FunT F) (r base : Nat) (S : Nat → Prop) (bs : List UInt8) (p : Nat) (most : Int) (w : World) (hrd : RdS w r base S bs p) (hbl : bs.length ≤ 1000000) (m0 : -9223372036854775808 ≤ most) (m1 : most ≤ 9223372036854775807) :
  Calls Tryz.prog 136 #[.pointer (some ⟨r,0,none⟩),.int .i64 most] w
   fun e w' => ∃ (A : Option Addr) (c p' : Nat) (t : Int × List Tk × Nat),blkF F (unpack bs) p most = t ∧ e = .returned (.tuple #[.slice A t.2.1.length c,.int .i64 t.1]) ∧ w'.ownsRow w.heap.size 164 3 (.slice A t.2.1.length c) t.2.1.length (t.2.1.flatMap tcC) ∧ RdS w' r base S bs p' ∧ (t.1 = 0 → p' = t.2.2) ∧ Mod (oneB r) w w' := by
 obtain ⟨hrl0,hp8,_⟩ := rd_low hrd
 have HA := Lib.hid (tkalph_any F hF r base S bs p w hrd hbl)
 clear hrd
 go_enter Tryz.func136,Tryz.ntmps136
 go_wp2_with fail
 refine HA.out.mono ?_
 rintro e w2 ⟨a,b,n,m,er,p2,rfl,hrd2,hm2,⟨hne,hbk⟩ | ⟨rfl,z1,z2,ga,gb,rfl,rfl,rfl,rfl,h1,h2,hz1,hz2,hla,hlb,hbk⟩⟩
 ·have HB := Lib.hid (hbk most)
  have HR2 := Lib.hid hrd2
  have HM2 := Lib.hid hm2
  have HNE := Lib.hid hne
  have t1 : (er != 0) = true := by simpa using hne
  have hbx := (Below.refl w2.heap.size w2).alloc (Nat.le_refl _) (.cells #[.pointer a,.int .i64 n,.pointer b,.int .i64 m] 251)
  have HBX := Lib.hid hbx
  clear hne hbk hrd2 hm2 hbx
  unfold alC
  go_wp2
  refine bodyPost_ret (results_tmp2 rfl _ _ _) rfl ?_
  exact ⟨none,0,p2,_,HB.out,by rfl,World.ownsRow_nil _ _ _ _,HR2.out.keep (Mod.of_below HBX.out) (fun _ _ h => h),fun h => absurd h HNE.out,HM2.out.then_ ((Mod.of_below HBX.out).mono fun _ h => h.elim)⟩
 ·have HB := Lib.hid (hbk most)
  have HM2 := Lib.hid hm2
  have hbx := (Below.refl w2.heap.size w2).alloc (Nat.le_refl _) (.cells #[.pointer (some ⟨ga,0,none⟩),.int .i64 257,.pointer (some ⟨gb,0,none⟩),.int .i64 0] 251)
  have hs2 := hm2.size
  have HTS := Lib.hid (tktoks_any F hF r base w.heap.size ga gb S bs p2 most z1 z2 (w2.alloc (.cells #[.pointer (some ⟨ga,0,none⟩),.int .i64 257,.pointer (some ⟨gb,0,none⟩),.int .i64 0] 251)) h1 h2 hz1 hz2 (hla.below_ hbx) (hlb.below_ hbx) hrl0 (hrd2.keep (Mod.of_below hbx) (fun _ _ h => h)) hbl m0 m1)
  have HBX := Lib.hid hbx
  clear hbk hrd2 hm2 hbx hla hlb
  unfold alC at HTS ⊢
  go_wp2_with (go_at_call 173;refine HTS.out.mono ?_;rintro e w3 ⟨A3,c3,p3,t3,ht3,rfl,hown3,hrd3,hpe3,hm3⟩;have HT3 := Lib.hid (And.intro ht3 (And.intro hown3 (And.intro hrd3 (And.intro hpe3 hm3))));clear ht3 hown3 hrd3 hpe3 hm3)
  obtain ⟨ht3,hown3,hrd3,hpe3,hm3⟩ := HT3.out
  refine bodyPost_ret (results_tmp2 rfl _ _ _) rfl ?_
  exact ⟨A3,c3,p3,t3,HB.out.trans ht3,by rfl,own_leT hown3 (by simp;omega),hrd3,hpe3,(HM2.out.then_ ((Mod.of_below HBX.out).mono fun _ h => h.elim)).then_ hm3⟩
end Go.Proofs.YtaknladkodibaaaGreatDoor
namespace Go.Proofs.YtaknladkodibaaaGreatDoor
open Go.RowKit BitsP
end Go.Proofs.YtaknladkodibaaaGreatDoor
namespace Go.Proofs.YtaknladkodibaaaGreatDoor
open Go.RowKit BitsP SymP
attribute [local go_sem ↓] Go.wp_at_zero Go.wp_at_succ
theorem expE_le {most : Int} : ∀ (L : List Ti) (out o : List UInt8),expE most L out = (0,o) → (out.length : Int) ≤ most → (o.length : Int) ≤ most
 | [],out,o,h,h1 => by
  rw [expE] at h
  rw [← (Prod.mk.inj h).2]
  exact h1
 | t :: L,out,o,h,h1 => by
  rw [expE] at h
  split at h
  ·cases (Prod.mk.inj h).1
  ·rename_i h2
   split at h
   ·cases (Prod.mk.inj h).1
   ·rename_i h3
    refine expE_le L _ o h ?_
    rw [putT_len out (by cases hk : okX t with | true => rfl | false => exact absurd (.inl hk) h2)]
    omega
def unB (F : List Int → List Bool → Int × Int × Nat) (area : List UInt8) (size : Int) : Int × List UInt8 :=
 if (blkF F (unpack area) 0 size).1 ≠ 0 then ((blkF F (unpack area) 0 size).1,[])
 else if (szs (blkF F (unpack area) 0 size).2.1 : Int) ≠ size then (5,[])
 else if 7 < 8 * area.length - (blkF F (unpack area) 0 size).2.2 ∨ numA (unpack area) (blkF F (unpack area) 0 size).2.2 8 ≠ 0 then (3,[])
 else (0,(expE size ((blkF F (unpack area) 0 size).2.1.map ti) []).2)
theorem blkF_many (F : List Int → List Bool → Int × Int × Nat) (L : List Bool) (p : Nat) (most : Int) : (blkF F L p most).2.1.length ≤ L.length + 1 := by
 have key : ∀ (z1 z2 : List Int) (k : Nat) (ts : List Tk) (size p : Nat),(blkL F z1 z2 L most k ts size p).2.1.length ≤ ts.length + k := by
  intro z1 z2 k
  induction k with
  | zero => intro ts size p;exact Nat.zero_le _
  | succ k ih =>
   intro ts size p
   rw [blkL]
   split
   ·exact Nat.zero_le _
   split
   ·show ts.length ≤ _;omega
   split
   ·exact Nat.zero_le _
   split
   ·exact Nat.zero_le _
   ·split
    ·exact Nat.zero_le _
    split
    ·exact Nat.zero_le _
    ·refine Nat.le_trans (ih _ _ _) ?_
     rw [List.length_append,List.length_singleton]
     omega
 unfold blkF
 split
 ·exact Nat.zero_le _
 split
 ·exact Nat.zero_le _
 split
 ·exact Nat.zero_le _
 split
 ·exact Nat.zero_le _
 ·refine Nat.le_trans (key _ _ _ _ _ _) ?_
  rw [List.length_nil]
  omega
theorem own_len {w : World} {base : Nat} {v : Value} {n : Nat} {xs : List UInt8} (h : OwnB w base 5 v n xs) : xs.length = n := by
 have h1 := h.1
 rw [byteCells_length,Nat.mul_one] at h1
 exact h1
theorem ti_row {w : World} {A : Option Addr} {B : Nat} {ts : List Tk} (h : Cells w B A (ts.flatMap tcC)) : Cells w B A ((ts.map ti).map tiC).flatten := by
 rw [List.flatMap_def] at h
 rw [List.map_map]
 exact h
set_option maxRecDepth 100000 in
set_option maxHeartbeats 2000000 in
theorem cdunpack_any (F : List Int → List Bool → Int × Int × Nat) (hF : FunT F) (A : Option Addr) (l c : Nat) (bs : List UInt8) (size : Int) (w : World) (hl : bs.length = l) (hm : l ≤ 12000) (h0 : 0 ≤ size) (h1 : size ≤ 65536) (hb : Bytes w w.heap.size A bs) :
  Calls Tryz.prog 98 #[.slice A l c,.int .i64 size] w fun e w' => ∃ A' c',e = .returned (.tuple #[.slice A' (unB F bs size).2.length c',.int .i64 (unB F bs size).1]) ∧ Bytes w' w'.heap.size A' (unB F bs size).2 ∧ Below w.heap.size w w' := by
 have HNEW := Lib.hid (rnew_any A l c w.heap.size bs w hl (by omega) (Nat.le_refl _) hb)
 have HTK : Hid (∀ (W : World) (base g : Nat) (S : Nat → Prop),RdS W g base S bs 0 → _) := fun W base g S hW => blktake_any F hF g base S bs 0 size W hW (by omega) (by omega) (by omega)
 have hlen := blkF_many F (unpack bs) 0 size
 rw [unpack_length,hl] at hlen
 obtain ⟨⟨er,ts,q⟩,hT⟩ : ∃ T,blkF F (unpack bs) 0 size = T := ⟨_,rfl⟩
 have HU : Hid (unB F bs size = if er ≠ 0 then (er,[]) else if (szs ts : Int) ≠ size then (5,[]) else if 7 < 8 * l - q ∨ numA (unpack bs) q 8 ≠ 0 then (3,[]) else (0,(expE size (ts.map ti) []).2)) := by show _ = _;rw [unB,hT,hl]
 rw [hT] at HTK hlen
 dsimp only at hlen
 obtain ⟨n,hn⟩ : ∃ n,ts.length = n := ⟨_,rfl⟩
 have HN := Lib.hid hn
 have HLL := Lib.hid hl
 have hn4 : n ≤ 100000 := by omega
 have HUL : Hid ((unpack bs).length = 8 * l) := by show _ = _;rw [unpack_length,hl]
 by_cases her : er = 0
 rotate_left
 ·have HE : Hid (unB F bs size = (er,[])) := by show _ = _;rw [HU.out,if_pos her]
  have v1 : (er != 0) = true := by simpa using her
  clear hb hl hT hlen hn her HU
  rw [HE.out]
  dsimp only
  go_enter Tryz.func98,Tryz.ntmps98
  go_wp2_with (first
   | (go_at_call 135;refine HNEW.out.mono ?_;rintro e w2 ⟨g,S,rfl,hrd2,hb2,hS2⟩;have HB2 := Lib.hid hb2;have HR2 := Lib.hid hrd2;have HG2 : Hid (w.heap.size ≤ g) := hS2 g (rd_low hrd2).2.2;clear hrd2 hb2 hS2)
   | (go_at_call 136;refine (HTK.out w2 w.heap.size g S HR2.out).mono ?_;rintro e w3 ⟨A3,c3,p3,t3,rfl,rfl,hown3,hrd3,hpe3,hm3⟩;dsimp only at hown3 hpe3;dsimp only;rw [HN.out] at hown3;rw [HN.out];have HO3 := Lib.hid (cells_of_own7 hown3);have HR3 := Lib.hid hrd3;have HPE := Lib.hid hpe3;have HB3 := Lib.hid (hm3.below HB2.out HB2.out.size (fun k hk => by cases hk;exact HG2.out));clear hown3 hrd3 hpe3 hm3))
  exact bodyPost_ret (results_tmp2 rfl _ _ _) rfl ⟨none,0,rfl,Cells.nil _ _ _,HB3.out⟩
 subst her
 obtain ⟨out,ho,hol⟩ := blkF_exp hT
 have hle := expE_le _ _ _ ho (by simpa using h0)
 have HEX : Hid (∀ (W : World) (A3 : Option Addr) (c3 : Nat),Cells W W.heap.size A3 (ts.flatMap tcC) → _) := fun W A3 c3 hW => Expand_any A3 n c3 (ts.map ti) size W (by rw [List.length_map];exact hn) (by omega) (by omega) (by omega) (ti_row hW)
 rw [ho] at HEX HU
 dsimp only at HEX
 rw [if_neg (by simp)] at HU
 obtain ⟨ol,holl⟩ : ∃ ol,out.length = ol := ⟨_,rfl⟩
 have HOL := Lib.hid holl
 rw [← hol,holl] at HU
 rw [holl] at HEX hle
 by_cases hsz : (ol : Int) = size
 rotate_left
 ·have HE : Hid (unB F bs size = (5,[])) := by show _ = _;rw [HU.out,if_pos hsz]
  have v2 : decide ((ol : Int) < size) = true := decide_eq_true (by omega)
  clear hb hl hT hlen hn hsz HU hol ho holl
  rw [HE.out]
  dsimp only
  go_enter Tryz.func98,Tryz.ntmps98
  go_wp2_with (first
   | (go_at_call 135;refine HNEW.out.mono ?_;rintro e w2 ⟨g,S,rfl,hrd2,hb2,hS2⟩;have HB2 := Lib.hid hb2;have HR2 := Lib.hid hrd2;have HG2 : Hid (w.heap.size ≤ g) := hS2 g (rd_low hrd2).2.2;clear hrd2 hb2 hS2)
   | (go_at_call 136;refine (HTK.out w2 w.heap.size g S HR2.out).mono ?_;rintro e w3 ⟨A3,c3,p3,t3,rfl,rfl,hown3,hrd3,hpe3,hm3⟩;dsimp only at hown3 hpe3;dsimp only;rw [HN.out] at hown3;rw [HN.out];have HO3 := Lib.hid (cells_of_own7 hown3);have HR3 := Lib.hid hrd3;have HPE := Lib.hid hpe3;have HB3 := Lib.hid (hm3.below HB2.out HB2.out.size (fun k hk => by cases hk;exact HG2.out));clear hown3 hrd3 hpe3 hm3)
   | (go_at_call 137;refine (HEX.out w3 A3 c3 HO3.out).mono ?_;rintro e w4 ⟨A4,c4,rfl,hc4,hb4⟩;have HC4 := Lib.hid hc4;have HB4 := Lib.hid (HB3.out.trans (hb4.mono HB3.out.size));obtain rfl := HPE.out rfl;have HR4 := Lib.hid (HR3.out.keep (Mod.of_below hb4) (fun _ _ h => h));clear hc4 hb4))
  exact bodyPost_ret (results_tmp2 rfl _ _ _) rfl ⟨none,0,rfl,Cells.nil _ _ _,HB4.out⟩
 have v2 : decide ((ol : Int) < size) = false := decide_eq_false (by omega)
 rw [if_neg (by omega)] at HU
 obtain ⟨lf,hlf⟩ : ∃ lf,8 * l - q = lf := ⟨_,rfl⟩
 have HLF := Lib.hid hlf
 rw [hlf] at HU
 by_cases h7 : 7 < lf
 ·have HE : Hid (unB F bs size = (3,[])) := by show _ = _;rw [HU.out,if_pos (.inl h7)]
  have v3 : decide ((8 : Int) ≤ (lf : Int)) = true := decide_eq_true (by omega)
  have v3n : decide (8 ≤ lf) = true := decide_eq_true (by omega)
  have v3m : decide ((7 : Int) < (lf : Int)) = true := decide_eq_true (by omega)
  clear hb hl hT hlen hn hsz HU hol ho holl hlf h7
  rw [HE.out]
  dsimp only
  go_enter Tryz.func98,Tryz.ntmps98
  go_wp2_with (first
   | (go_at_call 135;refine HNEW.out.mono ?_;rintro e w2 ⟨g,S,rfl,hrd2,hb2,hS2⟩;have HB2 := Lib.hid hb2;have HR2 := Lib.hid hrd2;have HG2 : Hid (w.heap.size ≤ g) := hS2 g (rd_low hrd2).2.2;clear hrd2 hb2 hS2)
   | (go_at_call 136;refine (HTK.out w2 w.heap.size g S HR2.out).mono ?_;rintro e w3 ⟨A3,c3,p3,t3,rfl,rfl,hown3,hrd3,hpe3,hm3⟩;dsimp only at hown3 hpe3;dsimp only;rw [HN.out] at hown3;rw [HN.out];have HO3 := Lib.hid (cells_of_own7 hown3);have HR3 := Lib.hid hrd3;have HPE := Lib.hid hpe3;have HB3 := Lib.hid (hm3.below HB2.out HB2.out.size (fun k hk => by cases hk;exact HG2.out));clear hown3 hrd3 hpe3 hm3)
   | (go_at_call 137;refine (HEX.out w3 A3 c3 HO3.out).mono ?_;rintro e w4 ⟨A4,c4,rfl,hc4,hb4⟩;have HC4 := Lib.hid hc4;have HB4 := Lib.hid (HB3.out.trans (hb4.mono HB3.out.size));obtain rfl := HPE.out rfl;have HR4 := Lib.hid (HR3.out.keep (Mod.of_below hb4) (fun _ _ h => h));clear hc4 hb4)
   | (go_at_call 138;refine (rleft_any g w.heap.size S bs _ w4 HR4.out (by rw [HLL.out];omega)).mono ?_;rintro e w' ⟨rfl,nl,rfl⟩;rw [HLL.out,HLF.out];have HR5 := Lib.hid (HR4.out.drewN nl);clear HR4))
  exact bodyPost_ret (results_tmp2 rfl _ _ _) rfl ⟨none,0,rfl,Cells.nil _ _ _,Below.drewN HB4.out nl⟩
 have v3 : decide ((8 : Int) ≤ (lf : Int)) = false := decide_eq_false (by omega)
 have v3n : decide (8 ≤ lf) = false := decide_eq_false (by omega)
 have v3m : decide ((7 : Int) < (lf : Int)) = false := decide_eq_false (by omega)
 have hlf7 : lf ≤ 7 := by omega
 have HPN : Hid (num (((unpack bs).drop q).take lf) = numA (unpack bs) q 8) := by
  show _ = _
  unfold numA
  rw [List.take_of_length_le (by rw [List.length_drop,HUL.out];omega),List.take_of_length_le (by rw [List.length_drop,HUL.out];omega)]
 obtain ⟨nm,hnm⟩ : ∃ nm,numA (unpack bs) q 8 = nm := ⟨_,rfl⟩
 rw [hnm] at HPN HU
 by_cases hz : nm = 0
 ·have HE : Hid (unB F bs size = (0,out)) := by show _ = _;rw [HU.out,if_neg (by omega)]
  have v4 : ((nm : Int) != 0) = false := by simp [hz]
  clear hb hl hT hlen hn hsz HU hol ho holl hlf h7 hnm hz
  rw [HE.out]
  dsimp only
  rw [HOL.out]
  go_enter Tryz.func98,Tryz.ntmps98
  go_wp2_with (first
   | (go_at_call 135;refine HNEW.out.mono ?_;rintro e w2 ⟨g,S,rfl,hrd2,hb2,hS2⟩;have HB2 := Lib.hid hb2;have HR2 := Lib.hid hrd2;have HG2 : Hid (w.heap.size ≤ g) := hS2 g (rd_low hrd2).2.2;clear hrd2 hb2 hS2)
   | (go_at_call 136;refine (HTK.out w2 w.heap.size g S HR2.out).mono ?_;rintro e w3 ⟨A3,c3,p3,t3,rfl,rfl,hown3,hrd3,hpe3,hm3⟩;dsimp only at hown3 hpe3;dsimp only;rw [HN.out] at hown3;rw [HN.out];have HO3 := Lib.hid (cells_of_own7 hown3);have HR3 := Lib.hid hrd3;have HPE := Lib.hid hpe3;have HB3 := Lib.hid (hm3.below HB2.out HB2.out.size (fun k hk => by cases hk;exact HG2.out));clear hown3 hrd3 hpe3 hm3)
   | (go_at_call 137;refine (HEX.out w3 A3 c3 HO3.out).mono ?_;rintro e w4 ⟨A4,c4,rfl,hc4,hb4⟩;have HC4 := Lib.hid hc4;have HB4 := Lib.hid (HB3.out.trans (hb4.mono HB3.out.size));obtain rfl := HPE.out rfl;have HR4 := Lib.hid (HR3.out.keep (Mod.of_below hb4) (fun _ _ h => h));clear hc4 hb4)
   | (go_at_call 138;refine (rleft_any g w.heap.size S bs _ w4 HR4.out (by rw [HLL.out];omega)).mono ?_;rintro e w' ⟨rfl,nl,rfl⟩;rw [HLL.out,HLF.out];have HR5 := Lib.hid (HR4.out.drewN nl);clear HR4)
   | (go_at_call 138;refine (rleft_any g w.heap.size S bs _ (w4.drewN nl) HR5.out (by rw [HLL.out];omega)).mono ?_;rintro e w' ⟨rfl,nl2,rfl⟩;rw [HLL.out,HLF.out];have HR6 := Lib.hid (HR5.out.drewN nl2);clear HR5)
   | (go_at_call 139;refine (rpeek_any g w.heap.size S bs p3 (lf : Int) _ ?_ (by rw [HLL.out];omega) (by omega) (by omega)).mono ?_;(exact HR6.out);rintro e w' ⟨rfl,np,rfl⟩;rw [cnt_nat (k := lf) (by omega),HPN.out]))
  exact bodyPost_ret (results_tmp2 rfl _ _ _) rfl ⟨A4,c4,rfl,HC4.out,Below.drewN HB4.out (nl + nl2 + np)⟩
 ·have HE : Hid (unB F bs size = (3,[])) := by show _ = _;rw [HU.out,if_pos (.inr hz)]
  have v4 : ((nm : Int) != 0) = true := by simpa using hz
  clear hb hl hT hlen hn hsz HU hol ho holl hlf h7 hnm hz
  rw [HE.out]
  dsimp only
  go_enter Tryz.func98,Tryz.ntmps98
  go_wp2_with (first
   | (go_at_call 135;refine HNEW.out.mono ?_;rintro e w2 ⟨g,S,rfl,hrd2,hb2,hS2⟩;have HB2 := Lib.hid hb2;have HR2 := Lib.hid hrd2;have HG2 : Hid (w.heap.size ≤ g) := hS2 g (rd_low hrd2).2.2;clear hrd2 hb2 hS2)
   | (go_at_call 136;refine (HTK.out w2 w.heap.size g S HR2.out).mono ?_;rintro e w3 ⟨A3,c3,p3,t3,rfl,rfl,hown3,hrd3,hpe3,hm3⟩;dsimp only at hown3 hpe3;dsimp only;rw [HN.out] at hown3;rw [HN.out];have HO3 := Lib.hid (cells_of_own7 hown3);have HR3 := Lib.hid hrd3;have HPE := Lib.hid hpe3;have HB3 := Lib.hid (hm3.below HB2.out HB2.out.size (fun k hk => by cases hk;exact HG2.out));clear hown3 hrd3 hpe3 hm3)
   | (go_at_call 137;refine (HEX.out w3 A3 c3 HO3.out).mono ?_;rintro e w4 ⟨A4,c4,rfl,hc4,hb4⟩;have HC4 := Lib.hid hc4;have HB4 := Lib.hid (HB3.out.trans (hb4.mono HB3.out.size));obtain rfl := HPE.out rfl;have HR4 := Lib.hid (HR3.out.keep (Mod.of_below hb4) (fun _ _ h => h));clear hc4 hb4)
   | (go_at_call 138;refine (rleft_any g w.heap.size S bs _ w4 HR4.out (by rw [HLL.out];omega)).mono ?_;rintro e w' ⟨rfl,nl,rfl⟩;rw [HLL.out,HLF.out];have HR5 := Lib.hid (HR4.out.drewN nl);clear HR4)
   | (go_at_call 138;refine (rleft_any g w.heap.size S bs _ (w4.drewN nl) HR5.out (by rw [HLL.out];omega)).mono ?_;rintro e w' ⟨rfl,nl2,rfl⟩;rw [HLL.out,HLF.out];have HR6 := Lib.hid (HR5.out.drewN nl2);clear HR5)
   | (go_at_call 139;refine (rpeek_any g w.heap.size S bs p3 (lf : Int) _ ?_ (by rw [HLL.out];omega) (by omega) (by omega)).mono ?_;(exact HR6.out);rintro e w' ⟨rfl,np,rfl⟩;rw [cnt_nat (k := lf) (by omega),HPN.out]))
  exact bodyPost_ret (results_tmp2 rfl _ _ _) rfl ⟨none,0,rfl,Cells.nil _ _ _,Below.drewN HB4.out (nl + nl2 + np)⟩
def unM (F : List Int → List Bool → Int × Int × Nat) (m : Int) (area : List UInt8) (size : Int) : Int × List UInt8 :=
 if m < 0 ∨ 2 < m then (1,[]) else if size < 0 ∨ 65536 < size then (5,[]) else if m = 1 then unB F area size
 else if m = 2 then (if (pcA area).2 ≠ 0 then ((pcA area).2,[]) else if ((pcA area).1.flatten.length : Int) ≠ size then (5,[]) else (0,(pcA area).1.flatten))
 else if (area.length : Int) ≠ size then (5,[]) else (0,area)
def UnQ (w : World) (t : Int × List UInt8) (e : Ending) (w' : World) : Prop := ∃ A' c',e = .returned (.tuple #[.slice A' t.2.length c',.int .i64 t.1]) ∧ Bytes w' w'.heap.size A' t.2 ∧ Below w.heap.size w w'
theorem UnQ.err {w w' : World} {er : Int} {t : Int × List UInt8} (ht : t = (er,[])) (hb : Below w.heap.size w w') : UnQ w t (.returned (.tuple #[.slice none 0 0,.int .i64 er])) w' := by
 subst ht
 exact ⟨none,0,rfl,Cells.nil _ _ _,hb⟩
set_option maxRecDepth 100000 in
set_option maxHeartbeats 1000000 in
theorem cdUnpack_any (F : List Int → List Bool → Int × Int × Nat) (hF : FunT F) (A : Option Addr) (l c : Nat) (bs : List UInt8) (m size : Int) (w : World) (hl : bs.length = l) (hm : l ≤ 1000000) (hmb : m = 1 → l ≤ 12000) (hc : l ≤ c) (hb : Bytes w w.heap.size A bs) :
  Calls Tryz.prog 54 #[.int .i64 m,.slice A l c,.int .i64 size] w (UnQ w (unM F m bs size)) := by
 by_cases hm1 : m < 0 ∨ 2 < m
 ·have HE : Hid (unM F m bs size = (1,[])) := by show _ = _;rw [unM,if_pos hm1]
  clear hb hl
  rcases hm1 with h | h
  ·have t1 : decide (m < 0) = true := decide_eq_true h
   clear h
   go_enter Tryz.func54,Tryz.ntmps54
   go_wp2
   refine bodyPost_ret (results_tmp2 rfl _ _ _) rfl ?_
   exact (UnQ.err HE.out (Below.refl _ _))
  ·have t1 : decide (m < 0) = false := decide_eq_false (by omega)
   have t2 : decide (2 < m) = true := decide_eq_true h
   clear h
   go_enter Tryz.func54,Tryz.ntmps54
   go_wp2
   refine bodyPost_ret (results_tmp2 rfl _ _ _) rfl ?_
   exact (UnQ.err HE.out (Below.refl _ _))
 have t1 : decide (m < 0) = false := decide_eq_false (by omega)
 have t2 : decide (2 < m) = false := decide_eq_false (by omega)
 by_cases hs1 : size < 0 ∨ 65536 < size
 ·have HE : Hid (unM F m bs size = (5,[])) := by show _ = _;rw [unM,if_neg hm1,if_pos hs1]
  clear hb hl hm1
  rcases hs1 with h | h
  ·have t3 : decide (size < 0) = true := decide_eq_true h
   clear h
   go_enter Tryz.func54,Tryz.ntmps54
   go_wp2
   refine bodyPost_ret (results_tmp2 rfl _ _ _) rfl ?_
   exact (UnQ.err HE.out (Below.refl _ _))
  ·have t3 : decide (size < 0) = false := decide_eq_false (by omega)
   have t4 : decide (65536 < size) = true := decide_eq_true h
   clear h
   go_enter Tryz.func54,Tryz.ntmps54
   go_wp2
   refine bodyPost_ret (results_tmp2 rfl _ _ _) rfl ?_
   exact (UnQ.err HE.out (Below.refl _ _))
 have t3 : decide (size < 0) = false := decide_eq_false (by omega)
 have t4 : decide (65536 < size) = false := decide_eq_false (by omega)
 by_cases hone : m = 1
 ·have HE : Hid (unM F m bs size = unB F bs size) := by show _ = _;rw [unM,if_neg hm1,if_neg hs1,if_pos hone]
  have HU := Lib.hid (cdunpack_any F hF A l c bs size w hl (hmb hone) (by omega) (by omega) hb)
  have t5 : (m == 1) = true := by simpa using hone
  rw [HE.out]
  obtain ⟨T,hT⟩ : ∃ T,unB F bs size = T := ⟨_,rfl⟩
  rw [hT] at HU ⊢
  clear hb hl hm1 hs1 hone hT HE
  go_enter Tryz.func54,Tryz.ntmps54
  go_wp2_with (go_at_call 98;refine HU.out.mono ?_;rintro e w2 ⟨A2,c2,rfl,hc2,hb2⟩;have HC2 := Lib.hid hc2;have HB2 := Lib.hid hb2;clear hc2 hb2)
  refine bodyPost_ret (results_tmp2 rfl _ _ _) rfl ?_
  exact ⟨A2,c2,rfl,HC2.out,HB2.out⟩
 have t5 : (m == 1) = false := by simpa using hone
 have HCL := Lib.hid (clone_any A l c w.heap.size bs w hl (by omega) (Nat.le_refl _) hb)
 by_cases htwo : m = 2
 ·have t6 : (m == 2) = true := by simpa using htwo
  have HP : Hid (∀ W,Below w.heap.size w W → _) := fun W hW => piecesOf_any A l c W.heap.size bs W hl (by omega) hc ((hb.below hW (Nat.le_refl _)).more hW.size) (Nat.le_refl _)
  obtain ⟨⟨ps,er⟩,hT⟩ : ∃ T,pcA bs = T := ⟨_,rfl⟩
  have HU : Hid (unM F m bs size = if er ≠ 0 then (er,[]) else if (ps.flatten.length : Int) ≠ size then (5,[]) else (0,ps.flatten)) := by show _ = _;rw [unM,if_neg hm1,if_neg hs1,if_neg hone,if_pos htwo,hT]
  rw [hT] at HP
  dsimp only at HP
  by_cases her : er = 0
  rotate_left
  ·have HE : Hid (unM F m bs size = (er,[])) := by show _ = _;rw [HU.out,if_pos her]
   have v1 : (er != 0) = true := by simpa using her
   clear hb hl hm1 hs1 hone htwo hT her HU
   go_enter Tryz.func54,Tryz.ntmps54
   go_wp2_with (first
    | (go_at_call 68;refine HCL.out.mono ?_;rintro e w2 ⟨A2,c2,rfl,hown2,hb2⟩;have HO2 := Lib.hid hown2;have HB2 := Lib.hid hb2;clear hown2 hb2)
    | (go_at_call 80;refine (HP.out w2 HB2.out).mono ?_;rintro e w3 ⟨v3,n3,cp3,A3,rfl,rfl,_,_,hb3⟩;have HB3 := Lib.hid (HB2.out.trans (hb3.mono HB2.out.size));clear hb3))
   refine bodyPost_ret (results_tmp2 rfl _ _ _) rfl ?_
   exact (UnQ.err HE.out HB3.out)
  subst her
  rw [if_neg (by simp)] at HU
  obtain ⟨R,hR⟩ : ∃ R,ps.flatten = R := ⟨_,rfl⟩
  rw [hR] at HP HU
  obtain ⟨rl,hrl⟩ : ∃ rl,R.length = rl := ⟨_,rfl⟩
  have HRL := Lib.hid hrl
  rw [hrl] at HU
  by_cases hsz : (rl : Int) = size
  ·have HE : Hid (unM F m bs size = (0,R)) := by show _ = _;rw [HU.out,if_neg (by omega)]
   have v2 : ((rl : Int) != size) = false := by simpa using hsz
   clear hb hl hm1 hs1 hone htwo hT HU hR hrl hsz
   rw [HE.out]
   go_enter Tryz.func54,Tryz.ntmps54
   go_wp2_with (first
    | (go_at_call 68;refine HCL.out.mono ?_;rintro e w2 ⟨A2,c2,rfl,hown2,hb2⟩;have HO2 := Lib.hid hown2;have HB2 := Lib.hid hb2;clear hown2 hb2)
    | (go_at_call 80;refine (HP.out w2 HB2.out).mono ?_;rintro e w3 ⟨v3,n3,cp3,A3,rfl,rfl,hown,_,hb3⟩;have hown2 := hown (by first | rfl | trivial);obtain rfl : n3 = rl := (own_len hown2).symm.trans HRL.out;have HO3 := Lib.hid hown2;have HB3 := Lib.hid (HB2.out.trans (hb3.mono HB2.out.size));clear hown hown2 hb3))
   refine bodyPost_ret (results_tmp2 rfl _ _ _) rfl ?_
   exact ⟨A3,cp3,by rw [HRL.out];rfl,Cells.of_own HO3.out,HB3.out⟩
  ·have HE : Hid (unM F m bs size = (5,[])) := by show _ = _;rw [HU.out,if_pos hsz]
   have v2 : ((rl : Int) != size) = true := by simpa using hsz
   clear hb hl hm1 hs1 hone htwo hT HU hR hrl hsz
   go_enter Tryz.func54,Tryz.ntmps54
   go_wp2_with (first
    | (go_at_call 68;refine HCL.out.mono ?_;rintro e w2 ⟨A2,c2,rfl,hown2,hb2⟩;have HO2 := Lib.hid hown2;have HB2 := Lib.hid hb2;clear hown2 hb2)
    | (go_at_call 80;refine (HP.out w2 HB2.out).mono ?_;rintro e w3 ⟨v3,n3,cp3,A3,rfl,rfl,hown,_,hb3⟩;have hown2 := hown (by first | rfl | trivial);obtain rfl : n3 = rl := (own_len hown2).symm.trans HRL.out;have HO3 := Lib.hid hown2;have HB3 := Lib.hid (HB2.out.trans (hb3.mono HB2.out.size));clear hown hown2 hb3))
   refine bodyPost_ret (results_tmp2 rfl _ _ _) rfl ?_
   exact (UnQ.err HE.out HB3.out)
 have t6 : (m == 2) = false := by simpa using htwo
 have HU : Hid (unM F m bs size = if (l : Int) ≠ size then (5,[]) else (0,bs)) := by show _ = _;rw [unM,if_neg hm1,if_neg hs1,if_neg hone,if_neg htwo,hl]
 have HLL := Lib.hid hl
 by_cases hsz : (l : Int) = size
 ·have HE : Hid (unM F m bs size = (0,bs)) := by show _ = _;rw [HU.out,if_neg (by omega)]
  have v2 : ((l : Int) != size) = false := by simpa using hsz
  clear hb hl hm1 hs1 hone htwo HU hsz
  rw [HE.out]
  go_enter Tryz.func54,Tryz.ntmps54
  go_wp2_with (first
    | (go_at_call 68;refine HCL.out.mono ?_;rintro e w2 ⟨A2,c2,rfl,hown2,hb2⟩;have HO2 := Lib.hid hown2;have HB2 := Lib.hid hb2;clear hown2 hb2))
  refine bodyPost_ret (results_tmp2 rfl _ _ _) rfl ?_
  exact ⟨A2,c2,by rw [HLL.out];rfl,Cells.of_own HO2.out,HB2.out⟩
 ·have HE : Hid (unM F m bs size = (5,[])) := by show _ = _;rw [HU.out,if_pos hsz]
  have v2 : ((l : Int) != size) = true := by simpa using hsz
  clear hb hl hm1 hs1 hone htwo HU hsz
  go_enter Tryz.func54,Tryz.ntmps54
  go_wp2_with (first
    | (go_at_call 68;refine HCL.out.mono ?_;rintro e w2 ⟨A2,c2,rfl,hown2,hb2⟩;have HO2 := Lib.hid hown2;have HB2 := Lib.hid hb2;clear hown2 hb2))
  refine bodyPost_ret (results_tmp2 rfl _ _ _) rfl ?_
  exact (UnQ.err HE.out HB2.out)
end Go.Proofs.YtaknladkodibaaaGreatDoor
namespace Go.Proofs.YtaknladkodibaaaGreatDoor
open Go.RowKit CrcP FieldP BitsP SymP
attribute [local go_sem ↓] Go.wp_at_zero Go.wp_at_succ
def areaB (bs : List UInt8) (fr ar : Int) : List UInt8 := (bs.drop fr.toNat).take ar.toNat
def datM (F : List Int → List Bool → Int × Int × Nat) (bs : List UInt8) (nm : ByteArray) (at_ fr ar sz su me : Int) : Int × List UInt8 :=
 if memB nm at_ fr ar sz me = false then (1,[]) else if (bs.length : Int) < fr + ar then (2,[]) else if (CrcP.sumN (areaB bs fr ar) : Int) = su then unM F me (areaB bs fr ar) sz else (4,[])
theorem memB_nums {nm : ByteArray} {at_ fr ar sz me : Int} (h : memB nm at_ fr ar sz me = true) : 0 ≤ me ∧ me ≤ 2 ∧ 1024 ≤ at_ ∧ at_ ≤ 1073741824 ∧ fr = at_ + (22 + (nm.size : Int)) ∧ nm.size ≤ 64 ∧ 0 ≤ ar ∧ ar ≤ 262144 ∧ 0 ≤ sz ∧ sz ≤ 65536 := by
 simp only [memB,Bool.and_eq_true,beq_iff_eq] at h
 obtain ⟨⟨⟨⟨⟨h1,h2⟩,h3⟩,h4⟩,h5⟩,h6⟩ := h
 have := rightB_size h1
 have := inB_yes h2
 have := inB_yes h3
 have := inB_yes h5
 have := inB_yes h6
 omega
theorem datM_no {F : List Int → List Bool → Int × Int × Nat} {bs : List UInt8} {nm : ByteArray} {at_ fr ar sz su me : Int} (h : memB nm at_ fr ar sz me = false) : datM F bs nm at_ fr ar sz su me = (1,[]) := if_pos h
theorem datM_end {F : List Int → List Bool → Int × Int × Nat} {bs : List UInt8} {nm : ByteArray} {at_ fr ar sz su me : Int} (h : memB nm at_ fr ar sz me = true) (h2 : (bs.length : Int) < fr + ar) : datM F bs nm at_ fr ar sz su me = (2,[]) := by
 unfold datM
 rw [if_neg (by rw [h];decide),if_pos h2]
theorem datM_sum {F : List Int → List Bool → Int × Int × Nat} {bs : List UInt8} {nm : ByteArray} {at_ fr ar sz su me : Int} (h : memB nm at_ fr ar sz me = true) (h2 : ¬ (bs.length : Int) < fr + ar) (h3 : ¬ (CrcP.sumN (areaB bs fr ar) : Int) = su) : datM F bs nm at_ fr ar sz su me = (4,[]) := by
 unfold datM
 rw [if_neg (by rw [h];decide),if_neg h2,if_neg h3]
theorem datM_yes {F : List Int → List Bool → Int × Int × Nat} {bs : List UInt8} {nm : ByteArray} {at_ fr ar sz su me : Int} (h : memB nm at_ fr ar sz me = true) (h2 : ¬ (bs.length : Int) < fr + ar) (h3 : (CrcP.sumN (areaB bs fr ar) : Int) = su) : datM F bs nm at_ fr ar sz su me = unM F me (areaB bs fr ar) sz := by
 unfold datM
 rw [if_neg (by rw [h];decide),if_neg h2,if_pos h3]
set_option maxRecDepth 100000 in
set_option maxHeartbeats 1000000 in
theorem recData_any (F : List Int → List Bool → Int × Int × Nat) (hF : FunT F) (tg : Nat) (A : Option Addr) (l c : Nat) (bs : List UInt8) (nm : ByteArray) (at_ fr ar sz su me : Int) (w : World) (hT : Table w tg) (hm : nm.size ≤ maxLen) (hl : bs.length = l) (hl2 : l ≤ 1000000) (hme : me = 1 → ar ≤ 10000 ∨ l ≤ 10000) (hc : l ≤ c) (hb : Bytes w w.heap.size A bs) :
  Calls Tryz.prog 19 #[.pointer (some ⟨tg,0,none⟩),.slice A l c,.agg #[.string nm,.int .i64 at_,.int .i64 fr,.int .i64 ar,.int .i64 sz,.int .u32 su,.int .i64 me]] w fun e w' => UnQ w (datM F bs nm at_ fr ar sz su me) e w' := by
 obtain ⟨W0,hW0⟩ : ∃ W0,w.alloc (.cells #[.string nm,.int .i64 at_,.int .i64 fr,.int .i64 ar,.int .i64 sz,.int .u32 su,.int .i64 me] 39) = W0 := ⟨_,rfl⟩
 have HX0 : Hid (Box W0 w.heap.size #[.string nm,.int .i64 at_,.int .i64 fr,.int .i64 ar,.int .i64 sz,.int .u32 su,.int .i64 me] 39) := by show Box _ _ _ _;rw [← hW0];exact heap_alloc_new w _
 have HB0 : Hid (Below w.heap.size w W0) := by show Below _ _ _;rw [← hW0];exact (Below.refl _ w).alloc (Nat.le_refl _) _
 have HZ0 : Hid (W0.heap.size = w.heap.size + 1) := by show _ = _;rw [← hW0];simp
 have HRI := Lib.hid (fun W => enRight_any nm at_ fr ar sz su me W hm)
 have HYS : Hid (∀ W,Below (w.heap.size + 1) W0 W → W.cell? ⟨w.heap.size,0,none⟩ = some (.string nm) ∧ W.cell? ⟨w.heap.size,1,none⟩ = some (.int .i64 at_) ∧ W.cell? ⟨w.heap.size,2,none⟩ = some (.int .i64 fr) ∧ W.cell? ⟨w.heap.size,3,none⟩ = some (.int .i64 ar) ∧ W.cell? ⟨w.heap.size,4,none⟩ = some (.int .i64 sz) ∧ W.cell? ⟨w.heap.size,5,none⟩ = some (.int .u32 su) ∧ W.cell? ⟨w.heap.size,6,none⟩ = some (.int .i64 me)) := fun W hW => by
  have h := HX0.out.below hW (Nat.lt_succ_self _)
  exact ⟨h.cell 0,h.cell 1,h.cell 2,h.cell 3,h.cell 4,h.cell 5,h.cell 6⟩
 have HT := Lib.hid hT
 have HBY := Lib.hid hb
 have HL := Lib.hid hl
 have htl := hT.lt
 obtain ⟨y0,y1,y2,y3,y4,y5,y6⟩ := HYS.out W0 (Below.refl _ _)
 clear hT hb hl
 have HWW := Lib.hid hW0
 clear hW0
 cases hM : memB nm at_ fr ar sz me with
 | false =>
  rw [datM_no hM]
  rw [hM] at HRI
  go_enter Tryz.func19,Tryz.ntmps19
  go_wp2_with fail
  rw [HWW.out]
  go_wp2_with (go_at_call 53;refine (HRI.out _).mono ?_;rintro e w1 ⟨rfl,hb1⟩;have HB1 := Lib.hid (HB0.out.trans (hb1.mono HB0.out.size));clear hb1)
  exact bodyPost_ret (results_tmp2 rfl _ _ _) rfl (UnQ.err rfl HB1.out)
 | true =>
  obtain ⟨m0,m1,a0,a1,f2,n64,r0,r1,s0,s1⟩ := memB_nums hM
  rw [hM] at HRI
  obtain ⟨f,hf⟩ : ∃ f : Nat,fr = f := ⟨fr.toNat,by omega⟩
  obtain ⟨a,ha⟩ : ∃ a : Nat,ar = a := ⟨ar.toNat,by omega⟩
  subst hf
  subst ha
  have hf2 : 1046 ≤ f ∧ f ≤ 1073741910 := by omega
  have ha2 : a ≤ 262144 := by omega
  have HWI := Lib.hid (fun W => rcWithin_any A l c nm at_ f a sz su me W (by omega) (by omega) (by omega))
  have hme2 : me = 1 → a ≤ 10000 ∨ l ≤ 10000 := fun h => by have := hme h;omega
  clear m0 m1 a0 a1 f2 n64 r0 r1 s0 s1 hme
  by_cases h2 : (l : Int) < f + a
  ·rw [datM_end hM (by rw [HL.out];omega)]
   rw [show decide ((a : Int) ≤ (l : Int) - (f : Int)) = false from decide_eq_false (by omega)] at HWI
   clear h2 hme2
   go_enter Tryz.func19,Tryz.ntmps19
   go_wp2_with fail
   rw [HWW.out]
   go_wp2_with (first
    | (go_at_call 53;refine (HRI.out _).mono ?_;rintro e w1 ⟨rfl,hb1⟩;have HC1 : Hid (Below (w.heap.size + 1) W0 w1) := hb1.mono (by rw [HZ0.out];exact Nat.le_refl _);obtain ⟨y0,y1,y2,y3,y4,y5,y6⟩ := HYS.out w1 HC1.out;have HB1 := Lib.hid (HB0.out.trans (hb1.mono HB0.out.size));clear hb1)
    | (go_at_call 48;refine (HWI.out _).mono ?_;rintro e w2 ⟨rfl,hb2⟩;have HB2 := Lib.hid (HB1.out.trans (hb2.mono HB1.out.size));clear hb2))
   exact bodyPost_ret (results_tmp2 rfl _ _ _) rfl (UnQ.err rfl HB2.out)
  ·rw [show decide ((a : Int) ≤ (l : Int) - (f : Int)) = true from decide_eq_true (by omega)] at HWI
   obtain ⟨b,o,rfl,hbB,hcell⟩ := HBY.out (by rw [byteCells_length,HL.out];omega)
   have har : areaB bs f a = (bs.drop f).take a := by unfold areaB;simp
   have hal : ((bs.drop f).take a).length = a := by rw [List.length_take,List.length_drop,HL.out];omega
   have hby := bytes_partD hbB hcell f a
   have hDM : ∀ er,(CrcP.sumN (areaB bs f a) : Int) = su → er = datM F bs nm at_ f a sz su me → er = unM F me (areaB bs f a) sz := fun er h3 h4 => by rw [h4,datM_yes hM (by rw [HL.out];omega) h3]
   have hDN : ¬ (CrcP.sumN (areaB bs f a) : Int) = su → datM F bs nm at_ f a sz su me = (4,[]) := fun h3 => datM_sum hM (by rw [HL.out];omega) h3
   obtain ⟨ab,hab⟩ : ∃ ab,areaB bs f a = ab := ⟨_,rfl⟩
   rw [hab] at hDM hDN
   rw [← har,hab] at hal hby
   have HAL := Lib.hid hal
   have HABY := Lib.hid (fun W (hW : Below w.heap.size w W) => hby.below hW (Nat.le_refl _))
   have HSU := Lib.hid (fun A8 c8 W (hW : Below w.heap.size w W) (hB8 : Bytes W w.heap.size A8 ab) => sum_any tg A8 a c8 ab w.heap.size W HAL.out (by omega) (HT.out.below hW htl) hB8)
   have HUN := Lib.hid (fun A8 c8 W (h8 : a ≤ c8) (hW : Below w.heap.size w W) (hB8 : Bytes W w.heap.size A8 ab) => cdUnpack_any F hF A8 a c8 ab me sz W HAL.out (by omega) (fun h => by have := hme2 h;omega) h8 (hB8.more hW.size))
   obtain ⟨s,hs⟩ : ∃ s,CrcP.sumN ab = s := ⟨_,rfl⟩
   rw [hs] at HSU hDM hDN
   have u1 : f ≤ l := by omega
   have u2 : f + a ≤ l := by omega
   clear hbB hcell har hal hby hab hs h2 hme2
   by_cases hcf : c = f
   ·subst hcf
    have HAZ : Hid (∀ W,Bytes W w.heap.size (some ⟨b,o,none⟩) ab) := fun W hp => by rw [byteCells_length,HAL.out] at hp;omega
    have HCF : Hid (a ≤ 0) := by show _ ≤ _;omega
    by_cases h3 : (s : Int) = su
    ·have HE := Lib.hid (hDM _ h3 rfl)
     rw [HE.out]
     have v1 : ((s : Int) != su) = false := by simpa using h3
     obtain ⟨T,hT⟩ : ∃ T,unM F me ab sz = T := ⟨_,rfl⟩
     rw [hT] at HUN ⊢
     clear h3 hDM hDN hT HE
     go_enter Tryz.func19,Tryz.ntmps19
     go_wp2_with fail
     rw [HWW.out]
     go_wp2_with (first
      | (go_at_call 53;refine (HRI.out _).mono ?_;rintro e w1 ⟨rfl,hb1⟩;have HC1 : Hid (Below (w.heap.size + 1) W0 w1) := hb1.mono (by rw [HZ0.out];exact Nat.le_refl _);obtain ⟨y0,y1,y2,y3,y4,y5,y6⟩ := HYS.out w1 HC1.out;have HB1 := Lib.hid (HB0.out.trans (hb1.mono HB0.out.size));have y5d : w1.drew.cell? ⟨w.heap.size,5,none⟩ = some (.int .u32 su) := y5;clear hb1)
      | (go_at_call 48;refine (HWI.out _).mono ?_;rintro e w2 ⟨rfl,hb2⟩;obtain ⟨y0,y1,y2,y3,y4,y5,y6⟩ := HYS.out w2 (HC1.out.trans (hb2.mono (by have := HC1.out.size;have := HZ0.out;omega)));have HB2 := Lib.hid (HB1.out.trans (hb2.mono HB1.out.size));have y5d : w2.drew.cell? ⟨w.heap.size,5,none⟩ = some (.int .u32 su) := y5;clear hb2))
     go_region_with (go_at_call 33;refine (HSU.out (some ⟨b,o,none⟩) 0 w2.drew HB2.out.drew (HAZ.out _)).mono ?_;rintro e w3 ⟨rfl,rfl⟩)
     all_goals
      go_wp2_with (go_at_call 54;refine (HUN.out (some ⟨b,o,none⟩) 0 _ HCF.out HB2.out.drew (HAZ.out _)).mono ?_;rintro e w4 ⟨A4,c4,rfl,hc4,hb4⟩;have HC4 := Lib.hid hc4;have HB4 := Lib.hid (HB2.out.drew.trans (hb4.mono HB2.out.drew.size));clear hc4 hb4)
      refine bodyPost_ret (results_tmp2 rfl _ _ _) rfl ?_
      exact ⟨A4,c4,rfl,HC4.out,HB4.out⟩
    ·have HE := Lib.hid (hDN h3)
     rw [HE.out]
     have v1 : ((s : Int) != su) = true := by simpa using h3
     clear h3 hDM hDN HE
     go_enter Tryz.func19,Tryz.ntmps19
     go_wp2_with fail
     rw [HWW.out]
     go_wp2_with (first
      | (go_at_call 53;refine (HRI.out _).mono ?_;rintro e w1 ⟨rfl,hb1⟩;have HC1 : Hid (Below (w.heap.size + 1) W0 w1) := hb1.mono (by rw [HZ0.out];exact Nat.le_refl _);obtain ⟨y0,y1,y2,y3,y4,y5,y6⟩ := HYS.out w1 HC1.out;have HB1 := Lib.hid (HB0.out.trans (hb1.mono HB0.out.size));have y5d : w1.drew.cell? ⟨w.heap.size,5,none⟩ = some (.int .u32 su) := y5;clear hb1)
      | (go_at_call 48;refine (HWI.out _).mono ?_;rintro e w2 ⟨rfl,hb2⟩;obtain ⟨y0,y1,y2,y3,y4,y5,y6⟩ := HYS.out w2 (HC1.out.trans (hb2.mono (by have := HC1.out.size;have := HZ0.out;omega)));have HB2 := Lib.hid (HB1.out.trans (hb2.mono HB1.out.size));have y5d : w2.drew.cell? ⟨w.heap.size,5,none⟩ = some (.int .u32 su) := y5;clear hb2))
     go_region_with (go_at_call 33;refine (HSU.out (some ⟨b,o,none⟩) 0 w2.drew HB2.out.drew (HAZ.out _)).mono ?_;rintro e w3 ⟨rfl,rfl⟩)
     all_goals
      go_wp2
      refine bodyPost_ret (results_tmp2 rfl _ _ _) rfl ?_
      exact UnQ.err rfl HB2.out.drew
   ·have hcf2 : ¬ c - f = 0 := by omega
    have hcf3 : ¬ c ≤ f := by omega
    have HCF : Hid (a ≤ c - f) := by show _ ≤ _;omega
    by_cases h3 : (s : Int) = su
    ·have HE := Lib.hid (hDM _ h3 rfl)
     rw [HE.out]
     have v1 : ((s : Int) != su) = false := by simpa using h3
     obtain ⟨T,hT⟩ : ∃ T,unM F me ab sz = T := ⟨_,rfl⟩
     rw [hT] at HUN ⊢
     clear h3 hDM hDN hT HE
     go_enter Tryz.func19,Tryz.ntmps19
     go_wp2_with fail
     rw [HWW.out]
     go_wp2_with (first
      | (go_at_call 53;refine (HRI.out _).mono ?_;rintro e w1 ⟨rfl,hb1⟩;have HC1 : Hid (Below (w.heap.size + 1) W0 w1) := hb1.mono (by rw [HZ0.out];exact Nat.le_refl _);obtain ⟨y0,y1,y2,y3,y4,y5,y6⟩ := HYS.out w1 HC1.out;have HB1 := Lib.hid (HB0.out.trans (hb1.mono HB0.out.size));have y5d : w1.drew.cell? ⟨w.heap.size,5,none⟩ = some (.int .u32 su) := y5;clear hb1)
      | (go_at_call 48;refine (HWI.out _).mono ?_;rintro e w2 ⟨rfl,hb2⟩;obtain ⟨y0,y1,y2,y3,y4,y5,y6⟩ := HYS.out w2 (HC1.out.trans (hb2.mono (by have := HC1.out.size;have := HZ0.out;omega)));have HB2 := Lib.hid (HB1.out.trans (hb2.mono HB1.out.size));have y5d : w2.drew.cell? ⟨w.heap.size,5,none⟩ = some (.int .u32 su) := y5;clear hb2))
     go_region_with (go_at_call 33;refine (HSU.out (some ⟨b,o + f,none⟩) (c - f) w2.drew HB2.out.drew (HABY.out _ HB2.out.drew)).mono ?_;rintro e w3 ⟨rfl,rfl⟩)
     all_goals
      go_wp2_with (go_at_call 54;refine (HUN.out (some ⟨b,o + f,none⟩) (c - f) _ HCF.out HB2.out.drew (HABY.out _ HB2.out.drew)).mono ?_;rintro e w4 ⟨A4,c4,rfl,hc4,hb4⟩;have HC4 := Lib.hid hc4;have HB4 := Lib.hid (HB2.out.drew.trans (hb4.mono HB2.out.drew.size));clear hc4 hb4)
      refine bodyPost_ret (results_tmp2 rfl _ _ _) rfl ?_
      exact ⟨A4,c4,rfl,HC4.out,HB4.out⟩
    ·have HE := Lib.hid (hDN h3)
     rw [HE.out]
     have v1 : ((s : Int) != su) = true := by simpa using h3
     clear h3 hDM hDN HE
     go_enter Tryz.func19,Tryz.ntmps19
     go_wp2_with fail
     rw [HWW.out]
     go_wp2_with (first
      | (go_at_call 53;refine (HRI.out _).mono ?_;rintro e w1 ⟨rfl,hb1⟩;have HC1 : Hid (Below (w.heap.size + 1) W0 w1) := hb1.mono (by rw [HZ0.out];exact Nat.le_refl _);obtain ⟨y0,y1,y2,y3,y4,y5,y6⟩ := HYS.out w1 HC1.out;have HB1 := Lib.hid (HB0.out.trans (hb1.mono HB0.out.size));have y5d : w1.drew.cell? ⟨w.heap.size,5,none⟩ = some (.int .u32 su) := y5;clear hb1)
      | (go_at_call 48;refine (HWI.out _).mono ?_;rintro e w2 ⟨rfl,hb2⟩;obtain ⟨y0,y1,y2,y3,y4,y5,y6⟩ := HYS.out w2 (HC1.out.trans (hb2.mono (by have := HC1.out.size;have := HZ0.out;omega)));have HB2 := Lib.hid (HB1.out.trans (hb2.mono HB1.out.size));have y5d : w2.drew.cell? ⟨w.heap.size,5,none⟩ = some (.int .u32 su) := y5;clear hb2))
     go_region_with (go_at_call 33;refine (HSU.out (some ⟨b,o + f,none⟩) (c - f) w2.drew HB2.out.drew (HABY.out _ HB2.out.drew)).mono ?_;rintro e w3 ⟨rfl,rfl⟩)
     all_goals
      go_wp2
      refine bodyPost_ret (results_tmp2 rfl _ _ _) rfl ?_
      exact UnQ.err rfl HB2.out.drew
end Go.Proofs.YtaknladkodibaaaGreatDoor
namespace Go.Proofs.YtaknladkodibaaaGreatDoor
open Go.RowKit CrcP FieldP
attribute [local go_sem ↓] Go.wp_at_zero Go.wp_at_succ
theorem unM_str {F : List Int → List Bool → Int × Int × Nat} {ls : List PcV} (h : ∀ x ∈ ls,x.1.length ≤ 65535) (hs : sumP ls ≤ 65535) : ∃ R,unM F 2 (arP ls) (sumP ls : Nat) = (0,R) := by
 refine ⟨(neR ls).flatten,?_⟩
 unfold unM arP
 rw [if_neg (by decide),pcA_stream h,if_neg (by omega),if_neg (by decide),if_pos rfl]
 dsimp only
 rw [if_neg (by simp),flat_sum,if_neg (by simp)]
theorem memB_str {la sm : Nat} (h1 : la ≤ 262144) (h2 : sm ≤ 65536) : memB nameA 1024 1047 (la : Int) (sm : Int) 2 = true := by
 unfold memB
 rw [nameA_right,inB_of (by decide) (by decide),inB_of (by decide) (by decide),inB_of (by omega) (by omega),inB_of (by omega) (by omega)]
 decide
theorem take_mid {P X Q : List UInt8} {p n : Nat} (hp : P.length = p) (hx : X.length = n) : ((P ++ (X ++ Q)).drop p).take n = X := by
 rw [← hp,List.drop_left,← hx,List.take_left]
set_option linter.unusedSimpArgs false in
set_option maxRecDepth 100000 in
set_option maxHeartbeats 4000000 in
theorem recflips_main (A : Option Addr) (l c : Nat) (ls : List PcV) (a q : Nat) (w : World) (hW : Wid w) (hl : ls.length = l) (hr : RowsIn w A ls) (hf : fewR ls) (ha : a ≤ 100000) (hq : q < 4294967296) (HG : Calls Tryz.prog 9 #[.slice A l c] w fun e w' => e = .returned (.bool false) ∧ w = w') :
  Calls Tryz.prog 7 #[.slice A l c,.int .i64 (a : Int),.int .u32 (q : Int)] w fun e w' => e = .returned (.bool true) ∧ Below w.heap.size w w' := by
 have hw0 := hW.1
 have HWI : Hid (∀ W,Below w.heap.size w W → Wid W) := fun W hB => hW.below hB hw0 (by have := hB.size;omega)
 have hz := (zero_of_info tableInfo).1
 have HSZ := Lib.hid tableSize
 have HGG := Lib.hid HG
 obtain ⟨hf1,hf2⟩ := hf
 have hl20 : l ≤ 20 := by omega
 have hsum : sumP ls ≤ 20000 := by
  have h1 := sumP_few ls 1000 hf2
  omega
 have hall : ∀ x ∈ ls,x.1.length ≤ 65535 := fun x hx => Nat.le_trans (hf2 x hx) (by omega)
 have HST : Hid (∀ (tg : Nat) W,Table W tg → Below w.heap.size w W → _) := fun tg W hT hB => recStr_yes tg A l c ls nameA W hT (HWI.out W hB) (by decide) nameA_right hl (by omega) (hr.belowS hB) hall (by omega)
 -- plainly
 have hpl := pcsB_len ls
 have hal : (arP ls).length ≤ 21000 := by unfold arP;rw [List.length_append];simp;omega
 have hat := str_at hall (by omega : sumP ls ≤ 65535) (by omega) (List.replicate 1024 0) [] nameA nameA_right
 rw [List.append_nil,List.length_replicate,strB_len] at hat
 obtain ⟨F,hF⟩ := funT_ex
 obtain ⟨R0,hR0⟩ := unM_str (F := F) hall (by omega)
 have hSB : List.replicate 1024 (0 : UInt8) ++ strB nameA ls = (List.replicate 1024 0 ++ headB 2 nameA.data.toList 0 0 0) ++ (arP ls ++ descB (sumP ls : Nat) ((arP ls).length : Nat) (CrcP.sumN (arP ls) : Nat)) := by
  unfold strB
  simp only [List.append_assoc]
 have hPL : (List.replicate 1024 (0 : UInt8) ++ headB 2 nameA.data.toList 0 0 0).length = 1047 := by rw [List.length_append,List.length_replicate,headB_length];rfl
 have hQL : (descB (sumP ls : Nat) ((arP ls).length : Nat) (CrcP.sumN (arP ls) : Nat)).length = 20 := descB_len _ _ _
 have hslen := strB_len nameA ls
 rw [show nameA.size = 1 from rfl] at hslen hat
 obtain ⟨sb,hsb⟩ : ∃ sb,strB nameA ls = sb := ⟨_,rfl⟩
 rw [hsb] at HST hat hSB hslen
 have hsl := sumN_lt (arP ls)
 obtain ⟨ar,har⟩ : ∃ ar,arP ls = ar := ⟨_,rfl⟩
 rw [har] at hat hSB hQL hal hR0 hslen hsl
 obtain ⟨sm,hsm⟩ : ∃ sm,sumP ls = sm := ⟨_,rfl⟩
 rw [hsm] at hat hSB hQL hR0 hsum
 obtain ⟨la,hla⟩ : ∃ la,ar.length = la := ⟨_,rfl⟩
 rw [hla] at hat hSB hQL hal hslen
 obtain ⟨su,hsu⟩ : ∃ su,CrcP.sumN ar = su := ⟨_,rfl⟩
 rw [hsu] at hat hSB hQL hsl
 obtain ⟨P,hP⟩ : ∃ P,List.replicate 1024 (0 : UInt8) ++ headB 2 nameA.data.toList 0 0 0 = P := ⟨_,rfl⟩
 rw [hP] at hSB hPL
 obtain ⟨Q,hQ⟩ : ∃ Q,descB (sm : Nat) (la : Nat) (su : Nat) = Q := ⟨_,rfl⟩
 rw [hQ] at hSB hQL
 have hsl43 : sb.length = la + 43 := by omega
 rw [hSB] at hat
 have hrv : recV (P ++ (ar ++ Q)) 1024 = recOk 1 nameA 1024 1047 la sm su 2 ((la : Int) + 1067) := by
  rw [show ((1024 : Nat) : Int) = 1024 from rfl] at hat
  rw [hat]
  congr 1
  omega
 unfold recOk at hrv
 obtain ⟨fl,hfl⟩ : ∃ fl,flipK ar a q 32 = fl := ⟨_,rfl⟩
 have hfll : fl.length = la := by rw [← hfl,length_flipK,hla]
 have hmb := memB_str (la := la) (sm := sm) (by omega) (by omega)
 have hnl : (P ++ (fl ++ Q)).length = 1067 + la := by rw [List.length_append,List.length_append,hPL,hfll,hQL];omega
 have hal2 : (P ++ (ar ++ Q)).length = 1067 + la := by rw [List.length_append,List.length_append,hPL,hla,hQL];omega
 have hab : areaB (P ++ (fl ++ Q)) 1047 (la : Int) = fl := by
  unfold areaB
  rw [show (1047 : Int).toNat = 1047 from rfl,Int.toNat_natCast]
  exact take_mid hPL hfll
 have HDT : Hid (∀ (tg : Nat) (A8 : Option Addr) (c8 : Nat) W,Table W tg → 1067 + la ≤ c8 → Bytes W W.heap.size A8 (P ++ (fl ++ Q)) → _) := fun tg A8 c8 W hT hc hb => recData_any F hF tg A8 (1067 + la) c8 (P ++ (fl ++ Q)) nameA 1024 1047 (la : Int) (sm : Int) (su : Int) 2 W hT (by decide) hnl (by omega) (fun h => by cases h) hc hb
 have HTK : Hid (∀ (tg : Nat) (A8 : Option Addr) (c8 : Nat) W,Table W tg → Below w.heap.size w W → 1067 + la ≤ c8 → Bytes W W.heap.size A8 (P ++ (ar ++ Q)) → _) := fun tg A8 c8 W hT hB hc hb => recTake_any tg A8 (1067 + la) c8 (P ++ (ar ++ Q)) 1024 W hT (HWI.out W hB) hal2 (by omega) hc (by omega) (by omega) hb
 rw [hrv] at HTK
 have HFP : Hid (∀ (A8 : Option Addr) (c8 : Nat) W,Bytes W W.heap.size A8 ar → _) := fun A8 c8 W hb => refFlip_any A8 la c8 ar (a : Int) (q : Int) W hla (by omega) (by omega) (by omega) (by omega) (by omega) hb
 rw [Int.toNat_natCast,Int.toNat_natCast,hfl] at HFP
 -- same,or with another sum
 have hcase : (fl = ar ∧ datM F (P ++ (fl ++ Q)) nameA 1024 1047 (la : Int) (sm : Int) (su : Int) 2 = (0,R0)) ∨ (fl ≠ ar ∧ datM F (P ++ (fl ++ Q)) nameA 1024 1047 (la : Int) (sm : Int) (su : Int) 2 = (4,[])) := by
  by_cases hfa : fl = ar
  ·refine .inl ⟨hfa,?_⟩
   rw [datM_yes hmb (by rw [hnl];omega) (by rw [hab,hfa,hsu]),hab,hfa]
   exact hR0
  ·refine .inr ⟨hfa,?_⟩
   rw [datM_sum hmb (by rw [hnl];omega) (by
    rw [hab]
    intro h
    have h2 : CrcP.sumN (flipK ar a q 32) = CrcP.sumN ar := by rw [hfl,hsu];omega
    exact hfa (by rw [← hfl];exact (area_flip a q h2).symm))]
 have hstr : fl ≠ ar → ((⟨(P ++ (fl ++ Q)).toArray⟩ : ByteArray).toList == (⟨(P ++ (ar ++ Q)).toArray⟩ : ByteArray).toList) = false := fun hne => by
  rw [bytes_eq]
  refine decide_eq_false fun h => hne ?_
  have h2 : P ++ (fl ++ Q) = P ++ (ar ++ Q) := h
  exact List.append_cancel_right (List.append_cancel_left h2)
 have HPL := Lib.hid hPL
 have HQL := Lib.hid hQL
 have HFL := Lib.hid hfll
 have HNL := Lib.hid hnl
 have HAL := Lib.hid hal2
 have HCASE := Lib.hid hcase
 have HSTR := Lib.hid hstr
 have HSB := Lib.hid hSB
 have HSL := Lib.hid hsl43
 have HLA := Lib.hid hla
 have mk : ∀ W,(Instr.makeSlice 25 (.int .i64 1024) (.int .i64 1024)).run Tryz.prog W = .ok (.slice (some ⟨W.heap.size,0,none⟩) 1024 1024) (W.alloc (.cells (madeCells #[.int .u8 0] 1024) 5)) := fun W => make_bytes 1024 (by omega) W
 have t1 : decide ((a : Int) < 0) = false := decide_eq_false (by omega)
 have t2 : decide ((100000 : Int) < (a : Int)) = false := decide_eq_false (by omega)
 clear hW hl hr hf1 hf2 hall hpl hat hR0 hslen hsl har hsm hsu hP hQ hsb hSB hPL hQL hsl43 hrv hfl hfll hmb hnl hal2 hab hcase hstr hla hF HG
 go_enter Tryz.func7,Tryz.ntmps7
 go_wp2_with (go_at_call 9;refine HGG.out.mono ?_;rintro e w' ⟨rfl,rfl⟩)
 refine (make_any _).mono ?_
 rintro e w1 ⟨rfl,hb⟩
 have HG := Lib.hid (heap_alloc_last w1 (.cells (Array.replicate 256 (.int .u32 0)) 28))
 have HB1 := Lib.hid hb
 clear hb
 go_wp2_with (refine wpList_store_row rfl 28 _ _ rfl w1.heap.size tabCells rfl rfl 28 _ HG.out HSZ.out (by rw [Array.size_replicate,tabCells_size]) tabCells_one ?_;rw [World.setRow_alloc_new];have HTB := Lib.hid (table_new w1);have HB2 := Lib.hid (HB1.out.alloc HB1.out.size (.cells tabCells 28));generalize w1.alloc (.cells tabCells 28) = w2 at *)
 clear hz HG HSZ
 refine (HST.out _ _ HTB.out HB2.out).mono ?_
 rintro e w3 ⟨A3,c3,rfl,ho3,hb3⟩
 rw [HSL.out] at ho3 ⊢
 have HC3 := Lib.hid ho3.cells
 have HT3 := Lib.hid (HTB.out.below hb3 HTB.out.lt)
 have HB3 := Lib.hid (HB2.out.trans (hb3.mono HB2.out.size))
 clear ho3 hb3
 obtain ⟨W4,hW4⟩ : ∃ W4,w3.alloc (.cells (madeCells #[.int .u8 0] 1024) 5) = W4 := ⟨_,rfl⟩
 have HO4 : Hid (OwnB W4 w3.heap.size 5 (.slice (some ⟨w3.heap.size,0,none⟩) 1024 1024) 1024 (List.replicate 1024 0)) := by show OwnB _ _ _ _ _ _;rw [← hW4];exact own_made w3 w3.heap.size 1024 (Nat.le_refl _) (by unfold maxLen;omega)
 have hb34 : Below w3.heap.size w3 W4 := by rw [← hW4];exact (Below.refl _ w3).alloc (Nat.le_refl _) _
 have HB34 := Lib.hid hb34
 have HB4 := Lib.hid (HB3.out.trans (hb34.mono HB3.out.size))
 have HT4 := Lib.hid (HT3.out.below hb34 HT3.out.lt)
 have HC4 := Lib.hid (HC3.out.below hb34 (Nat.le_refl _))
 clear hb34
 go_wp2_with (at_builtin;refine wpList_app W4 byteElem rfl (.tmp 37) (.tmp 38) rfl w3.heap.size (.slice (some ⟨w3.heap.size,0,none⟩) 1024 1024) 1024 (byteCells (List.replicate 1024 0)) rfl HO4.out w3.heap.size A3 (la + 43) c3 (byteCells sb) rfl (by rw [byteCells_length,HSL.out,Nat.mul_one]) HC4.out (byteCells_one _) (by unfold maxLen;omega) (by omega) HB34.out.size ?_;intro A5 c5 w5 hA;have HA5 := Lib.hid hA;clear hA)
 rw [show 1024 + (la + 43) = 1067 + la from by omega] at HA5 ⊢
 have hown := HA5.out.own
 rw [← byteCells_append,HSB.out] at hown
 have HC5 := Lib.hid (Cells.of_own hown)
 have hcap5 : 1067 + la ≤ c5 := capS (OwnT.of hown)
 have HT5 : Hid (Table w5 w1.heap.size) := HT4.out.below (HA5.out.below (Below.refl w3.heap.size W4) HB34.out.size (own_base HO4.out)) HT3.out.lt
 have HB5 := Lib.hid (HA5.out.below HB4.out HB4.out.size (fun k hk => Nat.le_trans HB3.out.size (own_base HO4.out k hk)))
 clear hown
 refine (HTK.out _ A5 c5 w5 HT5.out HB5.out hcap5 HC5.out).mono ?_
 rintro e w6 ⟨rfl,hb6⟩
 have HT6 := Lib.hid (HT5.out.below hb6 HT5.out.lt)
 have HB6 := Lib.hid (HB5.out.trans (hb6.mono HB5.out.size))
 have HC6 := Lib.hid (HC5.out.below hb6 (Nat.le_refl _))
 have HS6 := Lib.hid hb6.size
 clear hb6
 obtain ⟨W7,hW7⟩ : ∃ W7,w6.alloc (.cells #[.int .i64 1,.string nameA,.int .i64 1024,.int .i64 1047,.int .i64 (la : Int),.int .i64 (sm : Int),.int .u32 (su : Int),.int .i64 2,.int .i64 ((la : Int) + 1067)] 41) = W7 := ⟨_,rfl⟩
 have HX7 : Hid (Box W7 w6.heap.size #[.int .i64 1,.string nameA,.int .i64 1024,.int .i64 1047,.int .i64 (la : Int),.int .i64 (sm : Int),.int .u32 (su : Int),.int .i64 2,.int .i64 ((la : Int) + 1067)] 41) := by show Box _ _ _ _;rw [← hW7];exact heap_alloc_new w6 _
 have hb67 : Below w6.heap.size w6 W7 := by rw [← hW7];exact (Below.refl _ w6).alloc (Nat.le_refl _) _
 have HB7 := Lib.hid (HB6.out.trans (hb67.mono HB6.out.size))
 have HT7 := Lib.hid (HT6.out.below hb67 HT6.out.lt)
 have HC7 : Hid (Cells W7 w5.heap.size A5 (byteCells (P ++ (ar ++ Q)))) := HC6.out.below hb67 HS6.out
 clear hb67
 have r0 : W7.cell? ⟨w6.heap.size,0,none⟩ = some (.int .i64 1) := HX7.out.cell 0
 have r1 : W7.cell? ⟨w6.heap.size,1,none⟩ = some (.string nameA) := HX7.out.cell 1
 have r2 : W7.cell? ⟨w6.heap.size,2,none⟩ = some (.int .i64 1024) := HX7.out.cell 2
 have r3 : W7.cell? ⟨w6.heap.size,3,none⟩ = some (.int .i64 1047) := HX7.out.cell 3
 have r4 : W7.cell? ⟨w6.heap.size,4,none⟩ = some (.int .i64 (la : Int)) := HX7.out.cell 4
 have r5 : W7.cell? ⟨w6.heap.size,5,none⟩ = some (.int .i64 (sm : Int)) := HX7.out.cell 5
 have r6 : W7.cell? ⟨w6.heap.size,6,none⟩ = some (.int .u32 (su : Int)) := HX7.out.cell 6
 have r7 : W7.cell? ⟨w6.heap.size,7,none⟩ = some (.int .i64 2) := HX7.out.cell 7
 have r8 : W7.cell? ⟨w6.heap.size,8,none⟩ = some (.int .i64 ((la : Int) + 1067)) := HX7.out.cell 8
 obtain ⟨b,o,rfl,hbB,hcell⟩ := HC7.out (by rw [byteCells_length,HAL.out];omega)
 have HYP : Hid (∀ V,Below w5.heap.size W7 V → Bytes V w5.heap.size (some ⟨b,o,none⟩) P) := fun V hV => by
  have h := bytes_partD hbB hcell 0 1047
  rw [List.drop_zero,Nat.add_zero,← HPL.out,List.take_left] at h
  exact h.below hV (Nat.le_refl _)
 have HYA : Hid (Bytes W7 w5.heap.size (some ⟨b,o + 1047,none⟩) ar) := by
  have h := bytes_partD hbB hcell 1047 la
  rw [take_mid HPL.out HLA.out] at h
  exact h
 have HYQ : Hid (∀ V,Below w5.heap.size W7 V → Bytes V w5.heap.size (some ⟨b,o + (1047 + la),none⟩) Q) := fun V hV => by
  have h := bytes_restD hbB hcell (1047 + la)
  rw [← List.drop_drop,← HPL.out,List.drop_left,← HLA.out,List.drop_left,HPL.out,HLA.out] at h
  exact h.below hV (Nat.le_refl _)
 have g1 : decide ((la : Int) < 0) = false := decide_eq_false (by omega)
 have g2 : decide ((1067 : Int) + (la : Int) < 1047) = false := decide_eq_false (by omega)
 have g3 : decide ((1067 : Int) + (la : Int) - 1047 < (la : Int)) = false := decide_eq_false (by omega)
 have hcp1 : ¬ c5 = 1047 := by omega
 have hcp2 : 1047 + la ≤ c5 := by omega
 clear hbB hcell
 go_wp2_with (go_at_call 22;refine (HFP.out (some ⟨b,o + 1047,none⟩) (c5 - 1047) W7 (HYA.out.more (by have := HX7.out.lt;have := HS6.out;omega))).mono ?_;rintro e w8 ⟨A8,c8,rfl,hc8,hb8,hle8⟩;have HYF0 := Lib.hid hc8;have HX8 := Lib.hid (HX7.out.below hb8 HX7.out.lt);have HB8 := Lib.hid (HB7.out.trans (hb8.mono HB7.out.size));have HB78 := Lib.hid hb8;have HT8 := Lib.hid (HT7.out.below hb8 HT7.out.lt);clear hc8 hb8)
 have hs57 : w5.heap.size ≤ W7.heap.size := by have := HX7.out.lt;have := HS6.out;omega
 have hs58 : w5.heap.size ≤ w8.heap.size := Nat.le_trans hs57 HB78.out.size
 have HYP8 := Lib.hid (fun V (hV : Below w8.heap.size w8 V) => HYP.out V ((HB78.out.mono hs57).trans (hV.mono hs58)))
 have HYQ8 := Lib.hid (fun V (hV : Below w8.heap.size w8 V) => HYQ.out V ((HB78.out.mono hs57).trans (hV.mono hs58)))
 have HYF := Lib.hid (fun V (hV : Below w8.heap.size w8 V) => HYF0.out.below hV (Nat.le_refl _))
 have r38 : w8.drew.cell? ⟨w6.heap.size,3,none⟩ = some (.int .i64 1047) := HX8.out.cell 3
 have hq20 : 1067 + la - (1047 + la) = 20 := by omega
 have hcp3 : ¬ c5 = 1047 + la := by omega
 have hcp4 : 1047 + la ≤ 1067 + la := by omega
 have q1 : (1047 : Int) ≤ (c5 : Int) := by omega
 have hwr : IntKind.i64.wrap (1047 + (la : Int)) = 1047 + (la : Int) := IntWalk.i64_in _ (by omega)
 have q2 : (0 : Int) ≤ 1047 + (la : Int) := by omega
 have q3 : 1047 + (la : Int) ≤ 1067 + (la : Int) := by omega
 have q4 : (1047 + (la : Int)).toNat = 1047 + la := by omega
 refine wp_region_noPanic (wp_region_held_drew (S := (fun V : World => V.cell? ⟨w6.heap.size,3,none⟩ = some (.int .i64 1047))) (by kernel_rfl) r38 (fun hHeld => ?_))
 (try simp only [Act.put,List.setIfInBounds_toArray,List.set_cons_zero,List.set_cons_succ])
 refine wpAnyH_take (i := 1) (v := ?_) (by simp only [List.getElem?_toArray,List.getElem?_cons_succ,List.getElem?_cons_zero];rfl) (by kernel_rfl) (by kernel_rfl) (by kernel_rfl) (fun _ _ _ h => h) (Or.inl ⟨by rfl,?_⟩) (by assumption) ?_
 rotate_left
 ·intro w hSw;(try dsimp only at hSw);go_split_ands;go_simp;(try with_reducible rfl)
 (try simp only [Act.put,List.setIfInBounds_toArray,List.set_cons_zero,List.set_cons_succ])
 refine wpAnyH_take (i := 2) (v := ?_) (by simp only [List.getElem?_toArray,List.getElem?_cons_succ,List.getElem?_cons_zero];rfl) (by kernel_rfl) (by kernel_rfl) (by kernel_rfl) (fun _ _ _ h => h) (Or.inl ⟨by rfl,?_⟩) (by assumption) ?_
 rotate_left
 ·intro w hSw;(try dsimp only at hSw);go_split_ands;go_simp;(try with_reducible rfl)
 (try simp only [Act.put,List.setIfInBounds_toArray,List.set_cons_zero,List.set_cons_succ])
 refine wpAnyH_take (i := 3) (v := ?_) (by simp only [List.getElem?_toArray,List.getElem?_cons_succ,List.getElem?_cons_zero];rfl) (by kernel_rfl) (by kernel_rfl) (by kernel_rfl) (fun _ _ _ h => h) (Or.inl ⟨by rfl,?_⟩) (by assumption) ?_
 rotate_left
 ·intro w hSw;(try dsimp only at hSw);go_split_ands;go_simp;(try with_reducible rfl)
 (try simp only [Act.put,List.setIfInBounds_toArray,List.set_cons_zero,List.set_cons_succ])
 refine wpAnyH_take (i := 4) (v := ?_) (by simp only [List.getElem?_toArray,List.getElem?_cons_succ,List.getElem?_cons_zero];rfl) (by kernel_rfl) (by kernel_rfl) (by kernel_rfl) (fun _ _ _ h => h) (Or.inl ⟨by rfl,?_⟩) (by assumption) ?_
 rotate_left
 ·intro w hSw;(try dsimp only at hSw);go_split_ands;go_simp;(try with_reducible rfl)
 (try simp only [Act.put,List.setIfInBounds_toArray,List.set_cons_zero,List.set_cons_succ])
 refine wpAnyH_take (i := 5) (v := ?_) (by simp only [List.getElem?_toArray,List.getElem?_cons_succ,List.getElem?_cons_zero];rfl) (by kernel_rfl) (by kernel_rfl) (by kernel_rfl) (fun _ _ _ h => h) (Or.inl ⟨by rfl,?_⟩) (by assumption) ?_
 rotate_left
 ·intro w hSw;(try dsimp only at hSw);go_split_ands;go_simp;(try with_reducible rfl)
 (try simp only [Act.put,List.setIfInBounds_toArray,List.set_cons_zero,List.set_cons_succ])
 refine wpAnyH_take (i := 7) (v := ?_) (by simp only [List.getElem?_toArray,List.getElem?_cons_succ,List.getElem?_cons_zero];rfl) (by kernel_rfl) (by kernel_rfl) (by kernel_rfl) (fun _ _ _ h => h) (Or.inl ⟨by rfl,?_⟩) (by assumption) ?_
 rotate_left
 ·intro w hSw;(try dsimp only at hSw);go_split_ands;go_simp;(try with_reducible rfl)
 (try simp only [Act.put,List.setIfInBounds_toArray,List.set_cons_zero,List.set_cons_succ])
 refine wpAnyH_take (i := 9) (v := ?_) (by simp only [List.getElem?_toArray,List.getElem?_cons_succ,List.getElem?_cons_zero];rfl) (by kernel_rfl) (by kernel_rfl) (by kernel_rfl) (fun _ _ _ h => h) (Or.inl ⟨by rfl,?_⟩) (by assumption) ?_
 rotate_left
 ·intro w hSw;(try dsimp only at hSw);go_split_ands;go_simp;(try with_reducible rfl)
 (try simp only [Act.put,List.setIfInBounds_toArray,List.set_cons_zero,List.set_cons_succ])
 refine wpAnyH_take (i := 10) (v := ?_) (by simp only [List.getElem?_toArray,List.getElem?_cons_succ,List.getElem?_cons_zero];rfl) (by kernel_rfl) (by kernel_rfl) (by kernel_rfl) (fun _ _ _ h => h) (Or.inl ⟨by rfl,?_⟩) (by assumption) ?_
 rotate_left
 ·intro w hSw;(try dsimp only at hSw);go_split_ands;go_simp;(try with_reducible rfl)
 (try simp only [Act.put,List.setIfInBounds_toArray,List.set_cons_zero,List.set_cons_succ])
 refine wpAnyH_take (i := 11) (v := ?_) (by simp only [List.getElem?_toArray,List.getElem?_cons_succ,List.getElem?_cons_zero];rfl) (by kernel_rfl) (by kernel_rfl) (by kernel_rfl) (fun _ _ _ h => h) (Or.inl ⟨by rfl,?_⟩) (by assumption) ?_
 rotate_left
 ·intro w hSw;(try dsimp only at hSw);go_split_ands;go_simp;(try with_reducible rfl)
 (try simp only [Act.put,List.setIfInBounds_toArray,List.set_cons_zero,List.set_cons_succ])
 refine wpAnyH_take (i := 12) (v := ?_) (by simp only [List.getElem?_toArray,List.getElem?_cons_succ,List.getElem?_cons_zero];rfl) (by kernel_rfl) (by kernel_rfl) (by kernel_rfl) (fun _ _ _ h => h) (Or.inl ⟨by rfl,?_⟩) (by assumption) ?_
 rotate_left
 ·intro w hSw;(try dsimp only at hSw);go_split_ands;go_simp;(try with_reducible rfl)
 (try simp only [Act.put,List.setIfInBounds_toArray,List.set_cons_zero,List.set_cons_succ])
 refine wpAnyH_take (i := 13) (v := ?_) (by simp only [List.getElem?_toArray,List.getElem?_cons_succ,List.getElem?_cons_zero];rfl) (by kernel_rfl) (by kernel_rfl) (by kernel_rfl) (fun _ _ _ h => h) (Or.inl ⟨by rfl,?_⟩) (by assumption) ?_
 rotate_left
 ·intro w hSw;(try dsimp only at hSw);go_split_ands;go_simp;(try with_reducible rfl)
 (try simp only [Act.put,List.setIfInBounds_toArray,List.set_cons_zero,List.set_cons_succ])
 refine wpAnyH_take (i := 14) (v := ?_) (by simp only [List.getElem?_toArray,List.getElem?_cons_succ,List.getElem?_cons_zero];rfl) (by kernel_rfl) (by kernel_rfl) (by kernel_rfl) (fun _ _ _ h => h) (Or.inl ⟨by rfl,?_⟩) (by assumption) ?_
 rotate_left
 ·intro w hSw;(try dsimp only at hSw);go_split_ands;go_simp;(try with_reducible rfl)
 (try simp only [Act.put,List.setIfInBounds_toArray,List.set_cons_zero,List.set_cons_succ])
 refine wpAnyH_take (i := 15) (v := ?_) (by simp only [List.getElem?_toArray,List.getElem?_cons_succ,List.getElem?_cons_zero];rfl) (by kernel_rfl) (by kernel_rfl) (by kernel_rfl) (fun _ _ _ h => h) (Or.inl ⟨by rfl,?_⟩) (by assumption) ?_
 rotate_left
 ·intro w hSw;(try dsimp only at hSw);go_split_ands;go_simp;(try with_reducible rfl)
 (try simp only [Act.put,List.setIfInBounds_toArray,List.set_cons_zero,List.set_cons_succ])
 refine wpAnyH_ready (rs := [0]) (by kernel_rfl) (by simp) ?_
 refine AllReadyH.cons rfl (fun K hK => ?_) AllReadyH.nil
 go_simp
 obtain ⟨W9,hW9⟩ : ∃ W9,(w8.alloc (.cells #[] 5)).drew = W9 := ⟨_,rfl⟩
 have HO9 : Hid (OwnB W9 w8.heap.size 5 (.slice (some ⟨w8.heap.size,0,none⟩) 0 0) 0 []) := by show OwnB _ _ _ _ _ _;rw [← hW9];exact own_empty w8 _ (Nat.le_refl _)
 have HB9 : Hid (Below w8.heap.size w8 W9) := by show Below _ _ _;rw [← hW9];exact ((Below.refl _ w8).alloc (Nat.le_refl _) _).drew
 have r39 : W9.cell? ⟨w6.heap.size,3,none⟩ = some (.int .i64 1047) := (HX8.out.below HB9.out HX8.out.lt).cell 3
 rw [hW9]
 clear hW9
 refine hK.out _ _ r39 (fun hHeld => ?_)
 clear hK K
 (try simp only [Act.put,List.setIfInBounds_toArray,List.set_cons_zero,List.set_cons_succ])
 refine wpAnyH_ready (rs := [6]) (by kernel_rfl) (by simp) ?_
 refine AllReadyH.cons rfl (fun K hK => ?_) AllReadyH.nil
 refine step_appG W9 byteElem (by rfl) (.tmp 89) (.tmp 94) (some 95) rfl rfl w8.heap.size (.slice (some ⟨w8.heap.size,0,none⟩) 0 0) 0 ([]) rfl HO9.out w5.heap.size (some ⟨b,o,none⟩) 1047 c5 (byteCells P) rfl (by rw [byteCells_length,HPL.out]) (HYP8.out W9 HB9.out) (byteCells_one _) (by unfold maxLen;omega) (by omega) HB9.out.size ?_
 intro A10 w10c w10 hA
 have Hw10 := Lib.hid hA.own
 have HB10 := Lib.hid (hA.below HB9.out HB9.out.size (own_base HO9.out))
 have r3w10 : w10.cell? ⟨w6.heap.size,3,none⟩ = some (.int .i64 1047) := (HX8.out.below HB10.out HX8.out.lt).cell 3
 clear hA
 refine hK.out _ _ r3w10 (fun hHeld => ?_)
 clear hK K
 (try simp only [Act.put,List.setIfInBounds_toArray,List.set_cons_zero,List.set_cons_succ])
 refine wpAnyH_ready (rs := [8]) (by kernel_rfl) (by simp) ?_
 refine AllReadyH.cons rfl (fun K hK => ?_) AllReadyH.nil
 refine step_appG w10 byteElem (by rfl) (.tmp 95) (.tmp 96) (some 97) rfl rfl w8.heap.size (.slice A10 (0 + 1047) w10c) (0 + 1047) ([] ++ byteCells P) rfl Hw10.out w8.heap.size A8 la c8 (byteCells fl) rfl (by rw [byteCells_length,HFL.out,Nat.mul_one]) (HYF.out w10 HB10.out) (byteCells_one _) (by unfold maxLen;omega) (by omega) HB10.out.size ?_
 intro A11 w11c w11 hA
 have Hw11 := Lib.hid hA.own
 have HB11 := Lib.hid (hA.below HB10.out HB10.out.size (own_base Hw10.out))
 have r3w11 : w11.cell? ⟨w6.heap.size,3,none⟩ = some (.int .i64 1047) := (HX8.out.below HB11.out HX8.out.lt).cell 3
 clear hA
 refine hK.out _ _ r3w11 (fun hHeld => ?_)
 clear hK K
 (try simp only [Act.put,List.setIfInBounds_toArray,List.set_cons_zero,List.set_cons_succ])
 refine wpAnyH_ready (rs := [16]) (by kernel_rfl) (by simp) ?_
 refine AllReadyH.cons rfl (fun K hK => ?_) AllReadyH.nil
 refine step_appG w11 byteElem (by rfl) (.tmp 97) (.tmp 104) (some 105) rfl rfl w8.heap.size (.slice A11 (0 + 1047 + la) w11c) (0 + 1047 + la) ([] ++ byteCells P ++ byteCells fl) rfl Hw11.out w5.heap.size (some ⟨b,o + (1047 + la),none⟩) 20 (c5 - (1047 + la)) (byteCells Q) rfl (by rw [byteCells_length,HQL.out]) (HYQ8.out w11 HB11.out) (byteCells_one _) (by unfold maxLen;omega) (by omega) HB11.out.size ?_
 intro A12 w12c w12 hA
 have Hw12 := Lib.hid hA.own
 have HB12 := Lib.hid (hA.below HB11.out HB11.out.size (own_base Hw11.out))
 have r3w12 : w12.cell? ⟨w6.heap.size,3,none⟩ = some (.int .i64 1047) := (HX8.out.below HB12.out HX8.out.lt).cell 3
 clear hA
 refine hK.out _ _ r3w12 (fun hHeld => ?_)
 clear hK K
 (try simp only [Act.put,List.setIfInBounds_toArray,List.set_cons_zero,List.set_cons_succ])
 refine wpAnyH_take (i := 17) (v := ?_) (by simp only [List.getElem?_toArray,List.getElem?_cons_succ,List.getElem?_cons_zero];rfl) (by kernel_rfl) (by kernel_rfl) (by kernel_rfl) (fun _ _ _ h => h) (Or.inl ⟨by rfl,?_⟩) (by assumption) ?_
 rotate_left
 ·intro w hSw;(try dsimp only at hSw);go_split_ands;go_simp;(try with_reducible rfl)
 (try simp only [Act.put,List.setIfInBounds_toArray,List.set_cons_zero,List.set_cons_succ])
 refine wpAnyH_done (by kernel_rfl) (NoPanic.normal ?_) _
 rw [show 0 + 1047 + la + 20 = 1067 + la from by omega] at Hw12 ⊢
 have hcap : 1067 + la ≤ w12c := capS (OwnT.of Hw12.out)
 have HN12 : Hid (Bytes w12 w12.heap.size A12 (P ++ (fl ++ Q))) := by
  have h := Cells.of_own Hw12.out
  rw [List.nil_append,← byteCells_append,← byteCells_append,List.append_assoc] at h
  exact h
 have HX12 := Lib.hid (HX8.out.below HB12.out HX8.out.lt)
 have HT12 := Lib.hid (HT8.out.below HB12.out HT8.out.lt)
 have HA12 : Hid (Bytes w12 w5.heap.size (some ⟨b,o,none⟩) (P ++ (ar ++ Q))) := (HC7.out.below (HB78.out.mono hs57) (Nat.le_refl _)).below (HB12.out.mono hs58) (Nat.le_refl _)
 have HW12 := Lib.hid (HB8.out.trans (HB12.out.mono HB8.out.size))
 have r0 : w12.cell? ⟨w6.heap.size,0,none⟩ = some (.int .i64 1) := HX12.out.cell 0
 have r1 : w12.cell? ⟨w6.heap.size,1,none⟩ = some (.string nameA) := HX12.out.cell 1
 have r2 : w12.cell? ⟨w6.heap.size,2,none⟩ = some (.int .i64 1024) := HX12.out.cell 2
 have r3 : w12.cell? ⟨w6.heap.size,3,none⟩ = some (.int .i64 1047) := HX12.out.cell 3
 have r4 : w12.cell? ⟨w6.heap.size,4,none⟩ = some (.int .i64 (la : Int)) := HX12.out.cell 4
 have r5 : w12.cell? ⟨w6.heap.size,5,none⟩ = some (.int .i64 (sm : Int)) := HX12.out.cell 5
 have r6 : w12.cell? ⟨w6.heap.size,6,none⟩ = some (.int .u32 (su : Int)) := HX12.out.cell 6
 have r7 : w12.cell? ⟨w6.heap.size,7,none⟩ = some (.int .i64 2) := HX12.out.cell 7
 have r8 : w12.cell? ⟨w6.heap.size,8,none⟩ = some (.int .i64 ((la : Int) + 1067)) := HX12.out.cell 8
 obtain ⟨sn,hsn⟩ : ∃ str : ByteArray,(⟨(P ++ (fl ++ Q)).toArray⟩ : ByteArray) = str := ⟨_,rfl⟩
 obtain ⟨sa,hsa⟩ : ∃ str : ByteArray,(⟨(P ++ (ar ++ Q)).toArray⟩ : ByteArray) = str := ⟨_,rfl⟩
 have HSN := Lib.hid hsn
 have HSA := Lib.hid hsa
 have HSTR2 := HSTR.out
 rw [hsn,hsa] at HSTR2
 rcases HCASE.out with ⟨hsame,hdat⟩ | ⟨hne,hdat⟩
 ·have hss : sn = sa := by rw [← hsn,← hsa,hsame]
  subst hss
  rw [hdat] at HDT
  unfold UnQ at HDT
  clear hsn hsa HSTR2 hsame hdat
  go_upto_region 17 with (go_at_call 19;refine (HDT.out _ A12 w12c w12 HT12.out hcap HN12.out).mono ?_;rintro e w13 ⟨A13,c13,rfl,hc13,hb13⟩;have k1 := str_any w13 A12 (1067 + la) w12c _ _ (HN12.out.below hb13 (Nat.le_refl _)) HNL.out;have k2 := str_any w13 (some ⟨b,o,none⟩) (1067 + la) c5 _ _ (HA12.out.below hb13 (by have := HB12.out.size;omega)) HAL.out;rw [HSN.out] at k1;rw [HSA.out] at k2;have HB13 := Lib.hid (HW12.out.trans (hb13.mono HW12.out.size));clear hc13 hb13)
  go_wp2_with (go_at_call 10;refine (lives22_any w13 (HWI.out w13 HB13.out)).mono ?_;rintro e w14 ⟨rfl,hb14⟩;have HB14 := Lib.hid (HB13.out.trans (hb14.mono HB13.out.size));clear hb14)
  go_ret
  exact ⟨rfl,HB14.out⟩
 ·have hsf := HSTR2 hne
  rw [hdat] at HDT
  unfold UnQ at HDT
  clear hsn hsa HSTR2 hne hdat
  go_upto_region 17 with (go_at_call 19;refine (HDT.out _ A12 w12c w12 HT12.out hcap HN12.out).mono ?_;rintro e w13 ⟨A13,c13,rfl,hc13,hb13⟩;have k1 := str_any w13 A12 (1067 + la) w12c _ _ (HN12.out.below hb13 (Nat.le_refl _)) HNL.out;have k2 := str_any w13 (some ⟨b,o,none⟩) (1067 + la) c5 _ _ (HA12.out.below hb13 (by have := HB12.out.size;omega)) HAL.out;rw [HSN.out] at k1;rw [HSA.out] at k2;have HB13 := Lib.hid (HW12.out.trans (hb13.mono HW12.out.size));clear hc13 hb13)
  go_wp2_with (go_at_call 10;refine (lives22_any w13 (HWI.out w13 HB13.out)).mono ?_;rintro e w14 ⟨rfl,hb14⟩;have HB14 := Lib.hid (HB13.out.trans (hb14.mono HB13.out.size));clear hb14)
  go_ret
  exact ⟨rfl,HB14.out⟩
set_option maxRecDepth 100000 in
set_option maxHeartbeats 1000000 in
theorem recflips_law (A : Option Addr) (l c : Nat) (ls : List PcV) (a q : Int) (w : World) (hW : Wid w) (hl : ls.length = l) (hm : l ≤ 9223372036854775807) (hr : RowsIn w A ls) (hlen : ∀ x ∈ ls,x.1.length ≤ 9223372036854775807) (q0 : 0 ≤ q) (q1 : q < 4294967296) :
  Calls Tryz.prog 7 #[.slice A l c,.int .i64 a,.int .u32 q] w fun e w' => e = .returned (.bool true) ∧ Below w.heap.size w w' := by
 have HLV := Lib.hid (lives22_any w hW)
 obtain ⟨g,hg⟩ : ∃ g,(Calls Tryz.prog 9 #[.slice A l c] w fun e w' => e = .returned (.bool g) ∧ w = w') ∧ (g = false → fewR ls) := by
  by_cases hf : fewR ls
  ·refine ⟨false,(great22_any A l c ls w hl hm hr hlen).mono ?_,fun _ => hf⟩
   rintro e w' ⟨g,rfl,rfl,h⟩
   exact ⟨by rw [h.2 hf],rfl⟩
  ·refine ⟨true,(great22_any A l c ls w hl hm hr hlen).mono ?_,fun h => by cases h⟩
   rintro e w' ⟨g,rfl,rfl,h⟩
   cases g with
   | true => exact ⟨rfl,rfl⟩
   | false => exact absurd (h.1 rfl) hf
 obtain ⟨HG0,hfew⟩ := hg
 have HG := Lib.hid HG0
 cases g with
 | true =>
  clear HG0 hW hl hr hlen hfew
  go_enter Tryz.func7,Tryz.ntmps7
  go_wp2_with (first
   | (go_at_call 9;refine HG.out.mono ?_;rintro e w' ⟨rfl,rfl⟩)
   | (go_at_call 10;refine HLV.out.mono ?_;rintro e w4 ⟨rfl,hb4⟩;have HB4 := Lib.hid hb4;clear hb4))
  go_ret
  exact ⟨rfl,HB4.out⟩
 | false =>
 by_cases ha : a < 0
 ·have t1 : decide (a < 0) = true := decide_eq_true ha
  clear HG0 hW hl hr hlen hfew ha
  go_enter Tryz.func7,Tryz.ntmps7
  go_wp2_with (first
   | (go_at_call 9;refine HG.out.mono ?_;rintro e w' ⟨rfl,rfl⟩)
   | (go_at_call 10;refine HLV.out.mono ?_;rintro e w4 ⟨rfl,hb4⟩;have HB4 := Lib.hid hb4;clear hb4))
  go_ret
  exact ⟨rfl,HB4.out⟩
 by_cases h1 : 100000 < a
 ·have t1 : decide (a < 0) = false := decide_eq_false ha
  have t2 : decide (100000 < a) = true := decide_eq_true h1
  clear HG0 hW hl hr hlen hfew ha h1
  go_enter Tryz.func7,Tryz.ntmps7
  go_wp2_with (first
   | (go_at_call 9;refine HG.out.mono ?_;rintro e w' ⟨rfl,rfl⟩)
   | (go_at_call 10;refine HLV.out.mono ?_;rintro e w4 ⟨rfl,hb4⟩;have HB4 := Lib.hid hb4;clear hb4))
  go_ret
  exact ⟨rfl,HB4.out⟩
 obtain ⟨a,rfl⟩ := Int.eq_ofNat_of_zero_le (show 0 ≤ a by omega)
 obtain ⟨q,rfl⟩ := Int.eq_ofNat_of_zero_le q0
 exact recflips_main A l c ls a q w hW hl hr (hfew rfl) (by omega) (by omega) HG0
end Go.Proofs.YtaknladkodibaaaGreatDoor
