/- Layer 9: the reference's Fits, and its Join of one part. -/
import Derived.Test.YtaknladkodibaaaGreatDoorMgQ19330
import Derived.Test.YtaknladkodibaaaGreatDoorMgQ19336
import Derived.Test.YtaknladkodibaaaGreatDoorMgQ19316
import Derived.Deep.RegionLaw
namespace Go.Proofs.YtaknladkodibaaaGreatDoor
open Go.RowKit BitsP
theorem row2_0 (W : World) (a b : Value) (T : TypeId) : (W.alloc (.cells #[a,b] T)).cell? ⟨W.heap.size,0,none⟩ = some a := cell_of_row _ _ 0 _ _ _ (heap_alloc_new W _)
theorem row2_1 (W : World) (a b : Value) (T : TypeId) : (W.alloc (.cells #[a,b] T)).cell? ⟨W.heap.size,1,none⟩ = some b := cell_of_row _ _ 1 _ _ _ (heap_alloc_new W _)
set_option maxHeartbeats 400000 in
theorem rfits_any (num many : Nat) (w : World) (hn : num ≤ 18) (h1 : (spanP num).1 ≤ many) (h2 : many ≤ mostP num) :
  Calls Tryz.prog 208 #[.agg #[.int .i64 (num : Int),.int .i64 (many : Int)]] w fun e w' => e = .returned (.bool true) ∧ Below w.heap.size w w' := by
 have hb := (Below.refl w.heap.size w).alloc (Nat.le_refl _) (.cells #[.int .i64 (num : Int),.int .i64 (many : Int)] 242)
 have HB := Lib.hid hb
 clear hb
 by_cases e16 : num = 16
 ·subst e16
  have a1 : 3 ≤ many := h1
  have a2 : many ≤ 6 := h2
  have t5 : decide ((many : Int) ≤ 6) = true := decide_eq_true (by omega)
  go_enter Tryz.func208,Tryz.ntmps208
  go_wp2
  go_ret
  exact ⟨rfl,HB.out⟩
 by_cases e17 : num = 17
 ·subst e17
  have a1 : 3 ≤ many := h1
  have a2 : many ≤ 10 := h2
  have t5 : decide ((many : Int) ≤ 10) = true := decide_eq_true (by omega)
  go_enter Tryz.func208,Tryz.ntmps208
  go_wp2
  go_ret
  exact ⟨rfl,HB.out⟩
 by_cases e18 : num = 18
 ·subst e18
  have a1 : 11 ≤ many := h1
  have a2 : many ≤ 138 := h2
  have t5 : decide ((many : Int) ≤ 138) = true := decide_eq_true (by omega)
  go_enter Tryz.func208,Tryz.ntmps208
  go_wp2
  go_ret
  exact ⟨rfl,HB.out⟩
 obtain rfl : many = 1 := by
  unfold spanP at h1
  unfold mostP at h2
  rw [if_neg e16,if_neg e17,if_neg e18] at h1 h2
  dsimp only at h1
  omega
 have t1 : ((num : Int) == 16) = false := by simp;omega
 have t2 : ((num : Int) == 17) = false := by simp;omega
 have t3 : ((num : Int) == 18) = false := by simp;omega
 have t4 : (num : Int) < 16 := by omega
 clear h1 h2 e16 e17 e18
 go_enter Tryz.func208,Tryz.ntmps208
 go_wp2
 go_ret
 exact ⟨rfl,HB.out⟩
set_option maxRecDepth 100000 in
set_option maxHeartbeats 1000000 in
theorem rjoin_no (b c many : Nat) (w : World) (hb : b < w.heap.size) (h1 : 3 ≤ many) (h2 : many ≤ 6) (c0 : w.cell? ⟨b,0,none⟩ = some (.int .i64 16)) (c1 : w.cell? ⟨b,1,none⟩ = some (.int .i64 (many : Int))) :
  Calls Tryz.prog 178 #[.slice (some ⟨b,0,none⟩) 1 c] w fun e w' => e = .returned (.tuple #[.slice none 0 0,.int .i64 3]) ∧ Below w.heap.size w w' := by
 have HF := Lib.hid (fun W => rfits_any 16 many W (by omega) h1 h2)
 go_enter Tryz.func178,Tryz.ntmps178
 go_wp2
 go_loopg [4,5] 0 (fun gk v i wr => gk = 0 ∧ v = .slice none 0 0 ∧ i = .int .i64 0 ∧ wr = w)
 case atStart => exact ⟨rfl,rfl,rfl,rfl⟩
 case round =>
  obtain ⟨rfl,rfl,rfl,rfl⟩ := hrel
  go_wp2_with (go_at_call 208;refine (HF.out _).mono ?_;rintro e w2 ⟨rfl,hb2⟩;have HB2 := Lib.hid hb2;have c0' := (hb2.cell (p := ⟨b,0,none⟩) hb).trans c0;have c1' := (hb2.cell (p := ⟨b,1,none⟩) hb).trans c1;clear hb2)
  go_ret2
  exact ⟨rfl,HB2.out⟩
set_option maxRecDepth 100000 in
set_option maxHeartbeats 1000000 in
theorem rjoin_any (b c num many x : Nat) (w : World) (hb : b < w.heap.size) (hn : num ≤ 18) (h16 : num ≠ 16) (h1 : (spanP num).1 ≤ many) (h2 : many ≤ mostP num) (hx : saysP [] num = x) (c0 : w.cell? ⟨b,0,none⟩ = some (.int .i64 (num : Int))) (c1 : w.cell? ⟨b,1,none⟩ = some (.int .i64 (many : Int))) :
  Calls Tryz.prog 178 #[.slice (some ⟨b,0,none⟩) 1 c] w fun e w' => ∃ A c',e = .returned (.tuple #[.slice A many c',.int .i64 0]) ∧ w'.ownsRow w.heap.size 3 1 (.slice A many c') many (nCs (List.replicate many x)) ∧ Below w.heap.size w w' := by
 have HF := Lib.hid (fun W => rfits_any num many W hn h1 h2)
 have t1 : ((num : Int) == 16) = false := by simp;omega
 have hm138 := (mostP_le num).2
 have HUP : Hid (∀ k,nCs (List.replicate (k + 1) x) = nCs (List.replicate k x) ++ [.int .i64 (x : Int)]) := fun k => by
  rw [List.replicate_succ',nCs,List.map_append]
  rfl
 have hgt : (16 < num ∧ x = 0) ∨ (¬ 16 < num ∧ num = x) := by
  rw [← hx,saysP,if_neg h16]
  by_cases h : num = 17 ∨ num = 18
  ·rw [if_pos h];exact .inl ⟨by omega,rfl⟩
  ·rw [if_neg h];exact .inr ⟨by omega,rfl⟩
 have HGT := Lib.hid hgt
 have HC0 : Hid (∀ W,Below w.heap.size w W → W.cell? ⟨b,0,none⟩ = some (.int .i64 (num : Int))) := fun W hW => (hW.cell (p := ⟨b,0,none⟩) hb).trans c0
 have HC1 : Hid (∀ W,Below w.heap.size w W → W.cell? ⟨b,1,none⟩ = some (.int .i64 (many : Int))) := fun W hW => (hW.cell (p := ⟨b,1,none⟩) hb).trans c1
 have hmm : many ≤ 320 := by omega
 clear h1 h2 h16 hgt hx
 go_enter Tryz.func178,Tryz.ntmps178
 go_wp2
 go_loopg [4,5,6,7] 1 (fun gk v i s6 s7 wr => ∃ k j : Nat,k + gk = 1 ∧ i = .int .i64 (k : Int) ∧ j = k * many ∧ (∃ A c,v = .slice A j c) ∧ wr.ownsRow w.heap.size 3 1 v j (nCs (List.replicate j x)) ∧ Below w.heap.size w wr)
 case atStart => exact ⟨0,0,rfl,rfl,by omega,⟨none,0,rfl⟩,World.ownsRow_nil _ _ _ _,Below.refl _ _⟩
 case round =>
  obtain ⟨k,j,hk,rfl,hj,⟨A1,e1,rfl⟩,hrow,hbel⟩ := hrel
  have HROW := Lib.hid hrow
  have HBEL := Lib.hid hbel
  clear hrow hbel
  by_cases hk0 : k < 1
  ·obtain rfl : k = 0 := by omega
   obtain rfl : j = 0 := by omega
   clear hj
   have q0 := HC0.out wr HBEL.out
   have q1 := HC1.out wr HBEL.out
   rcases HGT.out with ⟨hg,rfl⟩ | ⟨hg,rfl⟩
   ·have t2 : decide ((16 : Int) < (num : Int)) = true := decide_eq_true (by omega)
    have t4 : decide (16 < num) = true := decide_eq_true (by omega)
    clear hg hm138 hn
    go_wp2_with (go_at_call 208;refine (HF.out _).mono ?_;rintro e w2 ⟨rfl,hb2⟩;have HB2 := Lib.hid (HBEL.out.trans (hb2.mono HBEL.out.size));have HR2 := Lib.hid (own_keep HROW.out (Mod.of_below hb2) (fun _ _ h => h));have r0 := HC0.out w2 HB2.out;have r1 := HC1.out w2 HB2.out;clear hb2)
    obtain ⟨GK,hGK⟩ : ∃ GK,GK = gk := ⟨_,rfl⟩
    subst hGK
    clear q0 q1
    go_loopg [4,7] many (fun gk v i wr => ∃ k2 : Nat,k2 + gk = many ∧ i = .int .i64 (k2 : Int) ∧ (∃ A c,v = .slice A k2 c) ∧ wr.ownsRow w.heap.size 3 1 v k2 (nCs (List.replicate k2 0)) ∧ Below w.heap.size w wr)
    case atStart => exact ⟨0,by omega,rfl,⟨A1,e1,rfl⟩,HR2.out,HB2.out⟩
    case round =>
     obtain ⟨k2,hk2,rfl,⟨A3,e3,rfl⟩,hrow,hbel⟩ := hrel
     have HROW3 := Lib.hid hrow
     have HBEL3 := Lib.hid hbel
     have q2 := HC1.out wr hbel
     clear hrow hbel HR2 HB2 r0 r1
     by_cases hkm : k2 < many
     ·go_wp2_with (at_builtin;refine wpList_app1 wr intElem rfl (.tmp 57) (.tmp 59) rfl w.heap.size (.slice A3 k2 e3) k2 (nCs (List.replicate k2 0)) rfl HROW3.out _ rfl rfl (by simp [Value.oneCell']) (by unfold maxLen;omega) (by omega) HBEL3.out.size ?_;intro A' c' w5 hA;have HA := Lib.hid hA;clear hA)
      go_roundg (gk - 1)
      case measure => omega
      case rel =>
       refine ⟨k2 + 1,by omega,by go_num,⟨A',c',rfl⟩,?_,HA.out.below HBEL3.out HBEL3.out.size (own_base HROW3.out)⟩
       have h := HA.out.own
       rw [HUP.out]
       exact h
     ·obtain rfl : k2 = many := by omega
      go_wp2
      go_roundg 0
      case measure => omega
      case rel => exact ⟨1,k2,rfl,rfl,by omega,⟨A3,e3,rfl⟩,HROW3.out,HBEL3.out⟩
   ·have t2 : decide ((16 : Int) < (num : Int)) = false := decide_eq_false (by omega)
    have t4 : decide (16 < num) = false := decide_eq_false (by omega)
    clear hg hm138 hn
    go_wp2_with (go_at_call 208;refine (HF.out _).mono ?_;rintro e w2 ⟨rfl,hb2⟩;have HB2 := Lib.hid (HBEL.out.trans (hb2.mono HBEL.out.size));have HR2 := Lib.hid (own_keep HROW.out (Mod.of_below hb2) (fun _ _ h => h));have r0 := HC0.out w2 HB2.out;have r1 := HC1.out w2 HB2.out;clear hb2)
    obtain ⟨GK,hGK⟩ : ∃ GK,GK = gk := ⟨_,rfl⟩
    subst hGK
    clear q0 q1
    go_loopg [4,7] many (fun gk v i wr => ∃ k2 : Nat,k2 + gk = many ∧ i = .int .i64 (k2 : Int) ∧ (∃ A c,v = .slice A k2 c) ∧ wr.ownsRow w.heap.size 3 1 v k2 (nCs (List.replicate k2 num)) ∧ Below w.heap.size w wr)
    case atStart => exact ⟨0,by omega,rfl,⟨A1,e1,rfl⟩,HR2.out,HB2.out⟩
    case round =>
     obtain ⟨k2,hk2,rfl,⟨A3,e3,rfl⟩,hrow,hbel⟩ := hrel
     have HROW3 := Lib.hid hrow
     have HBEL3 := Lib.hid hbel
     have q2 := HC1.out wr hbel
     clear hrow hbel HR2 HB2 r0 r1
     by_cases hkm : k2 < many
     ·go_wp2_with (at_builtin;refine wpList_app1 wr intElem rfl (.tmp 57) (.tmp 59) rfl w.heap.size (.slice A3 k2 e3) k2 (nCs (List.replicate k2 num)) rfl HROW3.out _ rfl rfl (by simp [Value.oneCell']) (by unfold maxLen;omega) (by omega) HBEL3.out.size ?_;intro A' c' w5 hA;have HA := Lib.hid hA;clear hA)
      go_roundg (gk - 1)
      case measure => omega
      case rel =>
       refine ⟨k2 + 1,by omega,by go_num,⟨A',c',rfl⟩,?_,HA.out.below HBEL3.out HBEL3.out.size (own_base HROW3.out)⟩
       have h := HA.out.own
       rw [HUP.out]
       exact h
     ·obtain rfl : k2 = many := by omega
      go_wp2
      go_roundg 0
      case measure => omega
      case rel => exact ⟨1,k2,rfl,rfl,by omega,⟨A3,e3,rfl⟩,HROW3.out,HBEL3.out⟩
  ·obtain rfl : k = 1 := by omega
   obtain rfl : j = many := by omega
   go_wp2
   go_ret2
   exact ⟨A1,e1,rfl,HROW.out,HBEL.out⟩
end Go.Proofs.YtaknladkodibaaaGreatDoor
