/- Layer 14: the reference's Pieces of any bytes. -/
import Derived.Test.YtaknladkodibaaaGreatDoorMgQ19318
import Derived.Test.YtaknladkodibaaaGreatDoorMgQ19326
import Derived.Test.YtaknladkodibaaaGreatDoorMgQ19337
import Derived.RegionTactic
import Derived.Deep.Cut
import Derived.Deep.DeepCutAuto
import Derived.IntWalk
import Derived.Outline
import Derived.Deep.LoopGhost
import Derived.BigQuiet
import Derived.Test.YtaknladkodibaaaGreatDoorMgQ193SDcEn
namespace Go.Proofs.YtaknladkodibaaaGreatDoor
open Go.RowKit CrcP FieldP
attribute [local go_sem ↓] Go.wp_at_zero Go.wp_at_succ
theorem val2 {bs : List UInt8} {p : Nat} {x y : UInt8} (hx : bs[p]? = some x) (hy : bs[p + 1]? = some y) : val ((bs.drop p).take 2) = x.toNat + 256 * y.toNat := by
 have e : (bs.drop p).take 2 = [x,y] := by
  apply List.ext_getElem?
  intro i
  rw [List.getElem?_take]
  rcases i with _ | _ | i
  ·rw [if_pos (by omega),List.getElem?_drop];simpa using hx
  ·rw [if_pos (by omega),List.getElem?_drop];simpa using hy
  ·rw [if_neg (by omega)];rfl
 rw [e]
 simp [val]
def PcPost (bs : List UInt8) (w : World) (e : Ending) (w' : World) : Prop := ∃ (v : Value) (n cp : Nat) (A' : Option Addr),e = .returned (.tuple #[v,.int .i64 (pcA bs).2]) ∧ v = .slice A' n cp ∧ ((pcA bs).2 = 0 → OwnB w' w.heap.size 5 v n (pcA bs).1.flatten) ∧ ((pcA bs).2 ≠ 0 → v = .slice none 0 0) ∧ Below w.heap.size w w'
set_option maxRecDepth 100000 in
set_option maxHeartbeats 600000 in
theorem refPieces_any (A : Option Addr) (l c B : Nat) (bs : List UInt8) (w : World) (hl : bs.length = l) (hm : l ≤ 1000000) (hc : l ≤ c) (hb : Bytes w B A bs) (hB : B ≤ w.heap.size) :
  Calls Tryz.prog 83 #[.slice A l c] w fun e w' => PcPost bs w e w' := by
 have HL := Lib.hid hl
 have HB : Hid (∀ V,Below w.heap.size w V → Bytes V B A bs) := fun V hV => hb.below hV hB
 have HBS := Lib.hid hB
 clear hb hl hB
 go_enter Tryz.func83,Tryz.ntmps83
 go_wp2
 go_loopg [4,5] l (fun gk sv pv wr => ∃ (p k n c' : Nat) (A' : Option Addr) (pre : List (List UInt8)),sv = .slice A' n c' ∧ pv = .int .i64 (p : Int) ∧ p ≤ l ∧ gk = l - p ∧ l - p < k ∧ pcA bs = (pre ++ (pcL k (bs.drop p)).1,(pcL k (bs.drop p)).2) ∧ OwnB wr w.heap.size 5 (.slice A' n c') n pre.flatten ∧ n ≤ p ∧ Below w.heap.size w wr)
 case atStart => exact ⟨0,l + 1,0,0,none,[],rfl,rfl,by omega,by omega,by omega,by unfold pcA;rw [HL.out];rfl,World.ownsRow_nil _ _ _ _,Nat.le_refl _,Below.refl _ _⟩
 case round =>
  obtain ⟨p,k,n,c',A',pre,rfl,rfl,hp,hgk,hk,hpc,hown,hnp,hbel⟩ := hrel
  obtain ⟨k,rfl⟩ : ∃ k',k = k' + 1 := ⟨k - 1,by omega⟩
  have HPC := Lib.hid hpc
  have HO := Lib.hid hown
  have HBE := Lib.hid hbel
  have HGK := Lib.hid (show gk = l - p ∧ l - p < k + 1 from ⟨hgk,hk⟩)
  clear hpc hown hbel hgk hk
  by_cases hin : p + 2 ≤ l
  ·obtain ⟨x,hx⟩ : ∃ x,bs[p]? = some x := ⟨_,List.getElem?_eq_getElem (by rw [HL.out];omega)⟩
   obtain ⟨y,hy⟩ : ∃ y,bs[p + 1]? = some y := ⟨_,List.getElem?_eq_getElem (by rw [HL.out];omega)⟩
   obtain ⟨b,o,rfl,hbB,hcc⟩ := (HB.out wr HBE.out) (by rw [byteCells_length,HL.out];omega)
   have c0 : wr.cell? ⟨b,o + p,none⟩ = some (.int .u8 (x.toNat : Int)) := hcc p _ (by unfold byteCells;rw [List.getElem?_map,hx];rfl)
   have c1 : wr.cell? ⟨b,o + (p + 1),none⟩ = some (.int .u8 (y.toNat : Int)) := hcc (p + 1) _ (by unfold byteCells;rw [List.getElem?_map,hy];rfl)
   have hv := val2 hx hy
   have hxl := UInt8.toNat_lt x
   have hyl := UInt8.toNat_lt y
   have u1 : (2 : Int) ≤ (l : Int) - (p : Int) := by omega
   have hdl : (bs.drop p).length = l - p := by rw [List.length_drop,HL.out]
   have HSH : Hid (¬ (bs.drop p).length < 2) := by show ¬ _;omega
   obtain ⟨X,hX⟩ : ∃ X,x.toNat = X := ⟨_,rfl⟩
   obtain ⟨Y,hY⟩ : ∃ Y,y.toNat = Y := ⟨_,rfl⟩
   rw [hX] at c0 hxl hv
   rw [hY] at c1 hyl hv
   have HV := Lib.hid hv
   have HDL := Lib.hid hdl
   clear hx hy hv hX hY hdl
   by_cases hz : X + 256 * Y = 0
   ·have HPE := Lib.hid (pcL_end (k := k) HSH.out (by rw [HV.out];exact hz))
    rw [HPE.out] at HPC
    obtain rfl : X = 0 := by omega
    obtain rfl : Y = 0 := by omega
    clear hz hcc
    by_cases hml : p + 2 = l
    ·have u3 : ¬ (p : Int) + 2 < (l : Int) := by omega
     have u3' : decide (p + 2 < l) = false := by simp;omega
     have HP2 : Hid (pcA bs = (pre,0)) := by show _ = _;rw [HPC.out,if_pos (by rw [HDL.out];omega)];simp
     clear hml
     go_upto_region 4 with (fail)
     go_region
     go_wp2
     refine bodyPost_ret (v := .tuple #[.slice A' n c',.int .i64 0]) (by simp [results,Tryz.results83,go_sem]) rfl ⟨_,n,c',A',by rw [HP2.out],rfl,fun _ => ?_,fun h => absurd (by rw [HP2.out]) h,HBE.out.drew⟩
     rw [HP2.out]
     exact HO.out.drew
    ·have u3 : (p : Int) + 2 < (l : Int) := by omega
     have u3' : decide (p + 2 < l) = true := by simp;omega
     have HP2 : Hid (pcA bs = (pre,3)) := by show _ = _;rw [HPC.out,if_neg (by rw [HDL.out];omega)];simp
     clear hml
     go_upto_region 4 with (fail)
     go_region
     go_wp2
     exact bodyPost_ret (v := .tuple #[.slice none 0 0,.int .i64 3]) (by simp [results,Tryz.results83,go_sem]) rfl ⟨_,0,0,none,by rw [HP2.out],rfl,fun h => (by rw [HP2.out] at h;cases h),fun _ => rfl,HBE.out.drew⟩
   ·have t1 : (X + 256 * Y == 0) = false := by simp;omega
    have t2 : ((X : Int) + 256 * (Y : Int) == 0) = false := by simp;omega
    by_cases hlong : X + 256 * Y ≤ l - (p + 2)
    ·have HPS := Lib.hid (pcL_step (k := k) HSH.out (by rw [HV.out];exact hz) (by rw [HV.out,HDL.out];omega))
     rw [HPS.out,HV.out] at HPC
     have u4 : ¬ (l : Int) - ((p : Int) + 2) < (X : Int) + 256 * (Y : Int) := by omega
     have hcq : ¬ c = p + 2 := by omega
     clear hz
     go_upto_region 4 with (fail)
     go_region
     have HPL : Hid ((((bs.drop p).drop 2).take (X + 256 * Y)).length = X + 256 * Y) := by show _ = _;rw [List.length_take,List.length_drop,HDL.out];omega
     have hbr : Bytes wr.drew B (some ⟨b,o + (p + 2),none⟩) (((bs.drop p).drop 2).take (X + 256 * Y)) := by
      rw [List.drop_drop]
      exact bytes_partD (w := wr.drew) hbB hcc (p + 2) (X + 256 * Y)
     have HBR := Lib.hid hbr
     have HN := Lib.hid hnp
     clear hcc hbr hnp
     go_upto_region 12 with fail
     go_wp2_with (at_builtin;refine wpList_app _ byteElem rfl (.tmp 40) (.tmp 46) rfl w.heap.size (.slice A' n c') n (byteCells pre.flatten) rfl HO.out.drew B (some ⟨b,o + (p + 2),none⟩) (X + 256 * Y) (c - (p + 2)) (byteCells (((bs.drop p).drop 2).take (X + 256 * Y))) (by simp [go_sem]) (by rw [byteCells_length,HPL.out,Nat.mul_one]) HBR.out (byteCells_one _) (by have := HN.out;unfold maxLen;omega) (by have := HN.out;omega) HBE.out.size ?_;intro A6 c6 w6 hA;have HA := Lib.hid hA;clear hA)
     go_roundg (gk - (2 + (X + 256 * Y)))
     case measure => have := HGK.out;omega
     case rel =>
      refine ⟨p + 2 + (X + 256 * Y),k,n + (X + 256 * Y),c6,A6,pre ++ [((bs.drop p).drop 2).take (X + 256 * Y)],rfl,by go_num,by omega,by have := HGK.out;omega,by have := HGK.out;omega,?_,?_,by have := HN.out;omega,HA.out.below HBE.out.drew HBE.out.size (own_base HO.out.drew)⟩
      ·rw [HPC.out,List.drop_drop,Nat.add_assoc];simp
      ·have := HA.out.own
       show World.ownsRow _ _ _ _ _ _ _
       rw [List.flatten_append,byteCells_append]
       simpa using this
    ·have HPS := Lib.hid (pcL_long (k := k) HSH.out (by rw [HV.out];exact hz) (by rw [HV.out,HDL.out];omega))
     rw [HPS.out] at HPC
     have u4 : (l : Int) - ((p : Int) + 2) < (X : Int) + 256 * (Y : Int) := by omega
     clear hz
     go_upto_region 4 with (fail)
     go_region
     go_wp2
     exact bodyPost_ret (v := .tuple #[.slice none 0 0,.int .i64 2]) (by simp [results,Tryz.results83,go_sem]) rfl ⟨_,0,0,none,by rw [HPC.out],rfl,fun h => (by rw [HPC.out] at h;cases h),fun _ => rfl,HBE.out.drew⟩
  ·have HSH : Hid ((bs.drop p).length < 2) := by show _ < _;rw [List.length_drop,HL.out];omega
   have u1 : ¬ (2 : Int) ≤ (l : Int) - (p : Int) := by omega
   have HPE := Lib.hid (pcL_short (k := k) HSH.out)
   rw [HPE.out] at HPC
   go_wp2
   exact bodyPost_ret (v := .tuple #[.slice none 0 0,.int .i64 2]) (by simp [results,Tryz.results83,go_sem]) rfl ⟨_,0,0,none,by rw [HPC.out],rfl,fun h => (by rw [HPC.out] at h;cases h),fun _ => rfl,HBE.out⟩
end Go.Proofs.YtaknladkodibaaaGreatDoor
