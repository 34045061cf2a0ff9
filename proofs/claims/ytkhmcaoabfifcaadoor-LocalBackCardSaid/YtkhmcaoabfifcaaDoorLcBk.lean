/- Layer 16: LocalBack walked. -/
import Derived.Test.YtkhmcaoabfifcaaDoorLcBkP
import Derived.Test.YtkhmcaoabfifcaaDoorKSum
import Derived.StillTailTactics
namespace Go.Proofs.YtkhmcaoabfifcaaDoor
open Go.RowKit CrcP FieldP
attribute [local go_sem ↓] Go.wp_at_zero Go.wp_at_succ

set_option maxHeartbeats 1000000 in
theorem lcback_long (m : Int) (s : ByteArray) (sz ar su : Int) (A : Option Addr) (la ca : Nat) (C : Option Addr) (lc cc : Nat) (w : World) (hW : Wid w) (h : 300 < s.size ∨ 500 < la ∨ 500 < lc) :
    Calls Tryd.prog 5 #[.agg #[.int .i64 m, .string s, .int .i64 sz, .int .i64 ar, .int .u32 su], .slice A la ca, .slice C lc cc] w fun e w' => e = .returned (.bool true) ∧ Below w.heap.size w w' := by
  have HWI := Lib.hid hW
  have hw0 := hW.1
  have HB0 := Lib.hid ((Below.refl w.heap.size w).alloc (Nat.le_refl _) (.cells #[.int .i64 m, .string s, .int .i64 sz, .int .i64 ar, .int .u32 su] 24))
  clear hW
  by_cases h1 : 300 < s.size
  · have hL : (300 : Int) < s.size := by omega
    clear h h1
    go_enter Tryd.func5, Tryd.ntmps5
    go_wp2_with (go_at_call 6; refine (lcLives_any _ (HWI.out.below HB0.out hw0 (by have := HB0.out.size; omega))).mono ?_; rintro e w16 ⟨rfl, hb⟩; have HB16 := Lib.hid (HB0.out.trans (hb.mono HB0.out.size)); clear hb)
    go_ret
    exact ⟨rfl, HB16.out⟩
  have hL : ¬ (300 : Int) < s.size := by omega
  by_cases h2 : 500 < la
  · have hL2 : (500 : Int) < la := by omega
    clear h h1 h2
    go_enter Tryd.func5, Tryd.ntmps5
    go_wp2_with (go_at_call 6; refine (lcLives_any _ (HWI.out.below HB0.out hw0 (by have := HB0.out.size; omega))).mono ?_; rintro e w16 ⟨rfl, hb⟩; have HB16 := Lib.hid (HB0.out.trans (hb.mono HB0.out.size)); clear hb)
    go_ret
    exact ⟨rfl, HB16.out⟩
  have hL2 : ¬ (500 : Int) < la := by omega
  have hL3 : (500 : Int) < lc := by omega
  clear h h1 h2
  go_enter Tryd.func5, Tryd.ntmps5
  go_wp2_with (go_at_call 6; refine (lcLives_any _ (HWI.out.below HB0.out hw0 (by have := HB0.out.size; omega))).mono ?_; rintro e w16 ⟨rfl, hb⟩; have HB16 := Lib.hid (HB0.out.trans (hb.mono HB0.out.size)); clear hb)
  go_ret
  exact ⟨rfl, HB16.out⟩

set_option maxRecDepth 100000 in
set_option maxHeartbeats 4000000 in
theorem lcback_no (m : Int) (s : ByteArray) (sz ar su : Int) (A : Option Addr) (la ca : Nat) (hs : List UInt8) (C : Option Addr) (lc cc : Nat) (cs : List UInt8) (w : World) (hW : Wid w) (hm : s.size ≤ 300) (ha : la ≤ 500) (hc : lc ≤ 500) (hlc : lc ≤ cc)
    (hla : hs.length = la) (hlb : cs.length = lc) (hba : Bytes w w.heap.size A hs) (hbc : Bytes w w.heap.size C cs) (hr : hdB m s.data.toList sz ar su = false) :
    Calls Tryd.prog 5 #[.agg #[.int .i64 m, .string s, .int .i64 sz, .int .i64 ar, .int .u32 su], .slice A la ca, .slice C lc cc] w fun e w' => e = .returned (.bool true) ∧ Below w.heap.size w w' := by
  have hz := (zero_of_info tableInfo).1
  have HSZ := Lib.hid tableSize
  have hL1 : ¬ (300 : Int) < s.size := by omega
  have hL2 : ¬ (500 : Int) < la := by omega
  have hL3 : ¬ (500 : Int) < lc := by omega
  have HWI := Lib.hid hW
  have hw0 := hW.1
  have HYA := Lib.hid hba
  have HYC := Lib.hid hbc
  have HLB := Lib.hid hlb
  have HLK := Lib.hid (fun tg W (hT : Table W tg) (hB : Below w.heap.size w W) => lcTake_all tg C lc cc cs w.heap.size 0 W hT (HWI.out.below hB hw0 (by have := hB.size; omega)) hlb (by omega) hlc (HYC.out.below hB (Nat.le_refl _)) hB.size)
  have HTA := Lib.hid (taken_lc cs)
  obtain ⟨w0, hw0'⟩ : ∃ w0, w.alloc (.cells #[.int .i64 m, .string s, .int .i64 sz, .int .i64 ar, .int .u32 su] 24) = w0 := ⟨_, rfl⟩
  have HX0 : Hid (Box w0 w.heap.size #[.int .i64 m, .string s, .int .i64 sz, .int .i64 ar, .int .u32 su] 24) := by rw [← hw0']; exact heap_alloc_new w _
  have HA0 : Hid (Below w.heap.size w w0) := by rw [← hw0']; exact (Below.refl w.heap.size w).alloc (Nat.le_refl _) _
  have hx1 : w0.cell? ⟨w.heap.size, 1, none⟩ = some (.string s) := HX0.out.cell 1
  clear hba hbc hW
  go_enter Tryd.func5, Tryd.ntmps5
  go_wp2_with fail
  refine (make_any _).mono ?_
  rintro e w1 ⟨rfl, hb⟩
  have HX1 := Lib.hid (HX0.out.below hb HX0.out.lt)
  have HB1 := Lib.hid (HA0.out.trans (hb.mono HA0.out.size))
  have HG := Lib.hid (heap_alloc_last w1 (.cells (Array.replicate 256 (.int .u32 0)) 27))
  clear hb hw0' hx1
  go_wp2_with (refine wpList_store_row rfl 27 _ _ rfl w1.heap.size tabCells rfl rfl 27 _ HG.out HSZ.out (by rw [Array.size_replicate, tabCells_size]) tabCells_one ?_; rw [World.setRow_alloc_new]; have HTB := Lib.hid (table_new w1); have HX2 := Lib.hid (HX1.out.alloc (.cells tabCells 27)); have HB2 := Lib.hid (HB1.out.alloc HB1.out.size (.cells tabCells 27)); generalize w1.alloc (.cells tabCells 27) = w2 at *; have y0 : w2.cell? ⟨w.heap.size, 0, none⟩ = some (.int .i64 m) := HX2.out.cell 0; have y1 : w2.cell? ⟨w.heap.size, 1, none⟩ = some (.string s) := HX2.out.cell 1; have y2 : w2.cell? ⟨w.heap.size, 2, none⟩ = some (.int .i64 sz) := HX2.out.cell 2; have y3 : w2.cell? ⟨w.heap.size, 3, none⟩ = some (.int .i64 ar) := HX2.out.cell 3; have y4 : w2.cell? ⟨w.heap.size, 4, none⟩ = some (.int .u32 su) := HX2.out.cell 4)
  clear hz HG HSZ y0 y1 y2 y3 y4
  refine (lcPut_no w1.heap.size m s sz ar su w2 (by unfold maxLen; omega) hr).mono ?_
  rintro e w3 ⟨rfl, hb⟩
  have HBX := Lib.hid (HB2.out.trans (hb.mono HB2.out.size))
  have HTX := Lib.hid (HTB.out.below hb HTB.out.lt)
  clear hb hr
  go_wp2_with fail
  refine (HLK.out _ _ HTX.out HBX.out).mono ?_
  rcases HTA.out with ⟨E, hE, he⟩ | ⟨gm, gs, gz, ga, gu, he, hg, hgu, hgl, hgt⟩
  · rw [he]
    rintro e wa ⟨rfl, hb⟩
    have hE1 : ((E : Int) != 0) = true := by simp; omega
    have HBA := Lib.hid ((HBX.out.trans (hb.mono HBX.out.size)).alloc (HBX.out.trans (hb.mono HBX.out.size)).size (.cells #[.int .i64 0, .string ⟨#[]⟩, .int .i64 0, .int .i64 0, .int .u32 0] 24))
    clear hb hE he
    go_wp2_with (go_at_call 6; refine (lcLives_any _ (HWI.out.below HBA.out hw0 (by have := HBA.out.size; omega))).mono ?_; rintro e w16 ⟨rfl, hb⟩; have HB16 := Lib.hid (HBA.out.trans (hb.mono HBA.out.size)); clear hb)
    go_ret
    exact ⟨rfl, HB16.out⟩
  · rw [he]
    rintro e wa ⟨rfl, hb⟩
    have HBA := Lib.hid ((HBX.out.trans (hb.mono HBX.out.size)).alloc (HBX.out.trans (hb.mono HBX.out.size)).size (.cells #[.int .i64 (gm : Int), .string gs, .int .i64 (gz : Int), .int .i64 (ga : Int), .int .u32 (gu : Int)] 24))
    have HTA2 := Lib.hid ((HTX.out.below hb HTX.out.lt).alloc (.cells #[.int .i64 (gm : Int), .string gs, .int .i64 (gz : Int), .int .i64 (ga : Int), .int .u32 (gu : Int)] 24))
    have HPG := Lib.hid (lcPut_yes w1.heap.size gm gs gz ga gu _ (HWI.out.below HBA.out hw0 (by have := HBA.out.size; omega)) hgu hg HTA2.out)
    have hgln : gs.data.toList.length = gs.size := by rw [Array.length_toList]; rfl
    have HGL : Hid ((headB gm gs.data.toList gz ga gu).length = 22 + gs.size) := by show _ = _; rw [headB_length, hgln]
    have HGT := Lib.hid hgt
    obtain ⟨b, o, rfl, hbB, hcell⟩ := HYC.out (by rw [byteCells_length, hlb]; omega)
    have HCK : Hid (Bytes w w.heap.size (some ⟨b, o, none⟩) (cs.take (22 + gs.size))) := fun _ => ⟨b, o, rfl, hbB, fun j u hu => hcell j u (by
      unfold byteCells at hu ⊢
      rw [List.getElem?_map, List.getElem?_take] at hu
      split at hu
      · rw [List.getElem?_map]; exact hu
      · simp at hu)⟩
    rw [HGT.out] at HCK
    generalize headB gm gs.data.toList gz ga gu = gb at *
    clear hb he hg hgu hgt hcell hgln
    have hgl' : 22 + gs.size ≤ lc := by omega
    have hgm : ¬ lc < 22 + gs.size := by omega
    have hgi : ¬ (lc : Int) < 22 + (gs.size : Int) := by omega
    have hmn : min ((22 : Int) + (gs.size : Int)) (lc : Int) = 22 + (gs.size : Int) := by omega
    have hgd : (22 : Int) + (gs.size : Int) ≤ (cc : Int) := by omega
    have hgz : (0 : Int) ≤ 22 + (gs.size : Int) := by omega
    have htn : ((22 : Int) + (gs.size : Int)).toNat = 22 + gs.size := by omega
    have hgc : 22 + gs.size ≤ cc := by omega
    go_wp2_with fail
    refine HPG.out.mono ?_
    rintro e w8 ⟨A8, k8, rfl, hown, hb8⟩
    have HB8 := Lib.hid (HBA.out.trans (hb8.mono HBA.out.size))
    have HO8 := Lib.hid hown.cells
    have HCV : Hid (∀ (W : World) (A : Option Addr) (c' B : Nat), Bytes W B A gb → (convert 29 9 (.slice A (22 + gs.size) c')).run Tryd.prog W = .ok (.string ⟨gb.toArray⟩) W) := fun W A c' B h => run_string_of 29 9 5 Tryd.underlying29 Tryd.underlying5 Tryd.underlying9 h HGL.out
    generalize hs1 : (⟨gb.toArray⟩ : ByteArray) = st at *
    clear hs1 hown hb8
    have k1 := HCV.out w8.drew A8 k8 _ HO8.out
    have k2 := HCV.out w8.drew (some ⟨b, o, none⟩) cc _ (HCK.out.below HB8.out.drew (Nat.le_refl _))
    go_wp2_with fail
    have k3 := HCV.out w8 A8 k8 _ HO8.out
    have k4 := HCV.out w8 (some ⟨b, o, none⟩) cc _ (HCK.out.below HB8.out (Nat.le_refl _))
    clear HLK HTA HYA HYC HLB HPG HTA2 HBA HGL HGT HCK HCV HO8 HTX HBX hbB
    go_still_tail 15, (by kernel_rfl)
    change wpList _ _ _ _ _ w8.drew
    have HB9 := Lib.hid HB8.out.drew
    generalize w8.drew = w9 at *
    clear HB8
    go_wp2_with (go_at_call 6; refine (lcLives_any _ (HWI.out.below HB9.out hw0 (by have := HB9.out.size; omega))).mono ?_; rintro e w16 ⟨rfl, hb⟩; have HB16 := Lib.hid (HB9.out.trans (hb.mono HB9.out.size)); clear hb)
    go_ret
    exact ⟨rfl, HB16.out⟩

set_option maxRecDepth 100000 in
set_option maxHeartbeats 4000000 in
theorem lcback_yes (m : Nat) (s : ByteArray) (sz ar su : Nat) (A : Option Addr) (la ca : Nat) (hs : List UInt8) (C : Option Addr) (lc cc : Nat) (cs : List UInt8) (w : World) (hW : Wid w) (hm : s.size ≤ 300) (ha : la ≤ 500) (hc : lc ≤ 500) (hlc : lc ≤ cc)
    (hla : hs.length = la) (hlb : cs.length = lc) (hba : Bytes w w.heap.size A hs) (hbc : Bytes w w.heap.size C cs) (hsu : su < 4294967296) (hr : hdB m s.data.toList sz ar su = true) :
    Calls Tryd.prog 5 #[.agg #[.int .i64 (m : Int), .string s, .int .i64 (sz : Int), .int .i64 (ar : Int), .int .u32 (su : Int)], .slice A la ca, .slice C lc cc] w fun e w' => e = .returned (.bool true) ∧ Below w.heap.size w w' := by
  have hz := (zero_of_info tableInfo).1
  have HSZ := Lib.hid tableSize
  have hL1 : ¬ (300 : Int) < s.size := by omega
  have hL2 : ¬ (500 : Int) < la := by omega
  have hL3 : ¬ (500 : Int) < lc := by omega
  have HWI := Lib.hid hW
  have hw0 := hW.1
  have HYA := Lib.hid hba
  have HYC := Lib.hid hbc
  have HLB := Lib.hid hlb
  have HLK := Lib.hid (fun tg W (hT : Table W tg) (hB : Below w.heap.size w W) => lcTake_all tg C lc cc cs w.heap.size 0 W hT (HWI.out.below hB hw0 (by have := hB.size; omega)) hlb (by omega) hlc (HYC.out.below hB (Nat.le_refl _)) hB.size)
  have HTA := Lib.hid (taken_lc cs)
  have hln : s.data.toList.length = s.size := by rw [Array.length_toList]; rfl
  have h64 := (rightB_len' (hdB_name hr)).2
  rw [hln] at h64
  have HBK := Lib.hid (back_lc s hs cs hr hsu)
  have HP := Lib.hid (fun g W (hV : Wid W) (hT : Table W g) => lcPut_yes g m s sz ar su W hV hsu hr hT)
  have HLN : Hid ((headB m s.data.toList sz ar su).length = 22 + s.size) := by show _ = _; rw [headB_length, hln]
  rw [hla] at HBK
  have HLA : Hid ((byteCells hs).length = la) := by show _ = _; rw [byteCells_length]; exact hla
  have HLC : Hid ((byteCells cs).length = lc) := by show _ = _; rw [byteCells_length]; exact hlb
  clear hr hln
  generalize headB m s.data.toList sz ar su = bs at *
  obtain ⟨w0, hw0'⟩ : ∃ w0, w.alloc (.cells #[.int .i64 (m : Int), .string s, .int .i64 (sz : Int), .int .i64 (ar : Int), .int .u32 (su : Int)] 24) = w0 := ⟨_, rfl⟩
  have HX0 : Hid (Box w0 w.heap.size #[.int .i64 (m : Int), .string s, .int .i64 (sz : Int), .int .i64 (ar : Int), .int .u32 (su : Int)] 24) := by rw [← hw0']; exact heap_alloc_new w _
  have HA0 : Hid (Below w.heap.size w w0) := by rw [← hw0']; exact (Below.refl w.heap.size w).alloc (Nat.le_refl _) _
  have hx1 : w0.cell? ⟨w.heap.size, 1, none⟩ = some (.string s) := HX0.out.cell 1
  clear hba hbc hW
  go_enter Tryd.func5, Tryd.ntmps5
  go_wp2_with fail
  refine (make_any _).mono ?_
  rintro e w1 ⟨rfl, hb⟩
  have HX1 := Lib.hid (HX0.out.below hb HX0.out.lt)
  have HB1 := Lib.hid (HA0.out.trans (hb.mono HA0.out.size))
  have HG := Lib.hid (heap_alloc_last w1 (.cells (Array.replicate 256 (.int .u32 0)) 27))
  clear hb hw0' hx1
  go_wp2_with (refine wpList_store_row rfl 27 _ _ rfl w1.heap.size tabCells rfl rfl 27 _ HG.out HSZ.out (by rw [Array.size_replicate, tabCells_size]) tabCells_one ?_; rw [World.setRow_alloc_new]; have HTB := Lib.hid (table_new w1); have HX2 := Lib.hid (HX1.out.alloc (.cells tabCells 27)); have HB2 := Lib.hid (HB1.out.alloc HB1.out.size (.cells tabCells 27)); generalize w1.alloc (.cells tabCells 27) = w2 at *; have y0 : w2.cell? ⟨w.heap.size, 0, none⟩ = some (.int .i64 (m : Int)) := HX2.out.cell 0; have y1 : w2.cell? ⟨w.heap.size, 1, none⟩ = some (.string s) := HX2.out.cell 1; have y2 : w2.cell? ⟨w.heap.size, 2, none⟩ = some (.int .i64 (sz : Int)) := HX2.out.cell 2; have y3 : w2.cell? ⟨w.heap.size, 3, none⟩ = some (.int .i64 (ar : Int)) := HX2.out.cell 3; have y4 : w2.cell? ⟨w.heap.size, 4, none⟩ = some (.int .u32 (su : Int)) := HX2.out.cell 4)
  clear hz HG HSZ y0 y1 y2 y3 y4
  refine (HP.out _ _ (HWI.out.below HB2.out hw0 (by have := HB2.out.size; omega)) HTB.out).mono ?_
  rintro e w3 ⟨Bb, kb, rfl, hown, hb⟩
  have HX3 := Lib.hid (HX2.out.below hb HX2.out.lt)
  have HB3 := Lib.hid (HB2.out.trans (hb.mono HB2.out.size))
  have HT3 := Lib.hid (HTB.out.below hb HTB.out.lt)
  have HY3 := Lib.hid hown.cells
  have HB23 := Lib.hid hb
  clear hb hown HP
  have HN3 := Lib.hid (HB3.out.alloc HB3.out.size (.cells #[] 5))
  have HO3 := Lib.hid (OwnT.of (own_empty w3 5 (base := w3.heap.size) (Nat.le_refl _)))
  have HYA3 := Lib.hid (HYA.out.below HN3.out (Nat.le_refl _))
  have HLB2 : Hid ((byteCells bs).length = 22 + s.size) := by show _ = _; rw [byteCells_length]; exact HLN.out
  have HY4 := Lib.hid (Cells.alloc HY3.out (Nat.le_refl _) (.cells #[] 5))
  have hz3 := HB3.out.size
  have HM3 := Lib.hid ((Below.refl w3.heap.size w3).alloc (Nat.le_refl _) (.cells #[] 5))
  have HLT : Hid ((hs ++ bs ++ cs).length = la + (22 + s.size) + lc) := by show _ = _; rw [List.length_append, List.length_append, HLN.out, hla, hlb]
  have HBC : Hid (byteCells hs ++ byteCells bs ++ byteCells cs = byteCells (hs ++ bs ++ cs)) := by show _ = _; rw [byteCells_append, byteCells_append]
  have HF4 := Lib.hid (fun (w4 : World) (A4 : Option Addr) (c4 : Nat) (HA : AppT (w3.alloc (.cells #[] 5)) w3.heap.size 5 (.slice (some ⟨w3.heap.size, 0, none⟩) 0 0) (0 + la) ([] ++ byteCells hs) w4 (.slice A4 (0 + la) c4)) => (⟨by (have h := HA.own; simp only [Nat.zero_add, List.nil_append] at h; exact h), HA.below HM3.out HM3.out.size (fun k hk => (HO3.out.lt k hk).1)⟩ : OwnT w4 w3.heap.size 5 (.slice A4 la c4) la (byteCells hs) ∧ Below w3.heap.size w3 w4))
  have HF5 := Lib.hid (fun (w4 : World) (A4 : Option Addr) (c4 : Nat) (h4 : OwnT w4 w3.heap.size 5 (.slice A4 la c4) la (byteCells hs) ∧ Below w3.heap.size w3 w4) (w5 : World) (A5 : Option Addr) (c5 : Nat) (HA : AppT w4 w3.heap.size 5 (.slice A4 la c4) (la + (22 + s.size)) (byteCells hs ++ byteCells bs) w5 (.slice A5 (la + (22 + s.size)) c5)) => (⟨HA.own, HA.below h4.2 h4.2.size (fun k hk => (h4.1.lt k hk).1)⟩ : OwnT w5 w3.heap.size 5 (.slice A5 (la + (22 + s.size)) c5) (la + (22 + s.size)) (byteCells hs ++ byteCells bs) ∧ Below w3.heap.size w3 w5))
  have HF6 := Lib.hid (fun (w5 : World) (A5 : Option Addr) (c5 : Nat) (h5 : OwnT w5 w3.heap.size 5 (.slice A5 (la + (22 + s.size)) c5) (la + (22 + s.size)) (byteCells hs ++ byteCells bs) ∧ Below w3.heap.size w3 w5) (w6 : World) (A6 : Option Addr) (c6 : Nat) (HA : AppT w5 w3.heap.size 5 (.slice A5 (la + (22 + s.size)) c5) (la + (22 + s.size) + lc) (byteCells hs ++ byteCells bs ++ byteCells cs) w6 (.slice A6 (la + (22 + s.size) + lc) c6)) => (⟨by (have h := HA.own; rw [HBC.out] at h; exact h), HA.below h5.2 h5.2.size (fun k hk => (h5.1.lt k hk).1)⟩ : OwnT w6 w3.heap.size 5 (.slice A6 (la + (22 + s.size) + lc) c6) (la + (22 + s.size) + lc) (byteCells (hs ++ bs ++ cs)) ∧ Below w3.heap.size w3 w6))
  go_wp2_with (first
    | (at_builtin; refine wpList_appT _ byteElem rfl (.tmp 42) (.tmp 43) rfl w3.heap.size (.slice (some ⟨w3.heap.size, 0, none⟩) 0 0) 0 [] rfl HO3.out w.heap.size A la ca (byteCells hs) rfl HLA.out HYA3.out (byteCells_one _) (by unfold maxLen; omega) (by omega) HM3.out.size ?_; intro A4 c4 w4 hA; have HA4 := Lib.hid (HF4.out w4 A4 c4 hA); clear hA; rw [Nat.zero_add])
    | (at_builtin; refine wpList_appT _ byteElem rfl (.tmp 44) (.tmp 45) rfl w3.heap.size (.slice A4 la c4) la (byteCells hs) rfl HA4.out.1 w3.heap.size Bb (22 + s.size) kb (byteCells bs) rfl HLB2.out (HY3.out.below HA4.out.2 (Nat.le_refl _)) (byteCells_one _) (by unfold maxLen; omega) (by omega) HA4.out.2.size ?_; intro A5 c5 w5 hA; have HA5 := Lib.hid (HF5.out w4 A4 c4 HA4.out w5 A5 c5 hA); clear hA)
    | (at_builtin; refine wpList_appT _ byteElem rfl (.tmp 46) (.tmp 47) rfl w3.heap.size (.slice A5 (la + (22 + s.size)) c5) (la + (22 + s.size)) (byteCells hs ++ byteCells bs) rfl HA5.out.1 w.heap.size C lc cc (byteCells cs) rfl HLC.out (HYC.out.below (HB3.out.trans (HA5.out.2.mono hz3)) (Nat.le_refl _)) (byteCells_one _) (by unfold maxLen; omega) (by omega) HA5.out.2.size ?_; intro A6 c6 w6 hA; have HA6 := Lib.hid (HF6.out w5 A5 c5 HA5.out w6 A6 c6 hA); clear hA))
  have HB6 := Lib.hid (HB3.out.trans (HA6.out.2.mono hz3))
  have HX6 := Lib.hid (HX3.out.below HA6.out.2 HX3.out.lt)
  have HT6 := Lib.hid (HTB.out.below ((Below.refl w2.heap.size w2).trans (HB23.out.trans (HA6.out.2.mono HB23.out.size))) HTB.out.lt)
  have hw6 := HB6.out.size
  refine (lcTake_all w1.heap.size A6 (la + (22 + s.size) + lc) c6 (hs ++ bs ++ cs) w6.heap.size (la : Int) w6 HT6.out (HWI.out.below HB6.out hw0 (by omega)) HLT.out (by omega) (own_cap HA6.out.1) HA6.out.1.cells (Nat.le_refl _)).mono ?_
  rw [HBK.out]
  rintro e w7 ⟨rfl, hb⟩
  have HX7 := Lib.hid (HX6.out.below hb HX6.out.lt)
  have HB7 := Lib.hid (HB6.out.trans (hb.mono hw6))
  have HT7 := Lib.hid (HT6.out.below hb HT6.out.lt)
  have HBX := Lib.hid (HB7.out.alloc HB7.out.size (.cells #[.int .i64 (m : Int), .string s, .int .i64 (sz : Int), .int .i64 (ar : Int), .int .u32 (su : Int)] 24))
  have HTX := Lib.hid (HT7.out.alloc (.cells #[.int .i64 (m : Int), .string s, .int .i64 (sz : Int), .int .i64 (ar : Int), .int .u32 (su : Int)] 24))
  clear hb
  have y0 : w7.cell? ⟨w.heap.size, 0, none⟩ = some (.int .i64 (m : Int)) := HX7.out.cell 0
  have y1 : w7.cell? ⟨w.heap.size, 1, none⟩ = some (.string s) := HX7.out.cell 1
  have y2 : w7.cell? ⟨w.heap.size, 2, none⟩ = some (.int .i64 (sz : Int)) := HX7.out.cell 2
  have y3 : w7.cell? ⟨w.heap.size, 3, none⟩ = some (.int .i64 (ar : Int)) := HX7.out.cell 3
  have y4 : w7.cell? ⟨w.heap.size, 4, none⟩ = some (.int .u32 (su : Int)) := HX7.out.cell 4
  have hx7 := HX7.out.lt
  go_wp2_with fail
  clear y0 y1 y2 y3 y4
  refine (HLK.out _ _ HTX.out HBX.out).mono ?_
  rcases HTA.out with ⟨E, hE, he⟩ | ⟨gm, gs, gz, ga, gu, he, hg, hgu, hgl, hgt⟩
  · rw [he]
    rintro e wa ⟨rfl, hb⟩
    have hE1 : ((E : Int) != 0) = true := by simp; omega
    have HBA := Lib.hid ((HBX.out.trans (hb.mono HBX.out.size)).alloc (HBX.out.trans (hb.mono HBX.out.size)).size (.cells #[.int .i64 0, .string ⟨#[]⟩, .int .i64 0, .int .i64 0, .int .u32 0] 24))
    clear hb hE he
    go_wp2_with (go_at_call 6; refine (lcLives_any _ (HWI.out.below HBA.out hw0 (by have := HBA.out.size; omega))).mono ?_; rintro e w16 ⟨rfl, hb⟩; have HB16 := Lib.hid (HBA.out.trans (hb.mono HBA.out.size)); clear hb)
    go_ret
    exact ⟨rfl, HB16.out⟩
  · rw [he]
    rintro e wa ⟨rfl, hb⟩
    have HBA := Lib.hid ((HBX.out.trans (hb.mono HBX.out.size)).alloc (HBX.out.trans (hb.mono HBX.out.size)).size (.cells #[.int .i64 (gm : Int), .string gs, .int .i64 (gz : Int), .int .i64 (ga : Int), .int .u32 (gu : Int)] 24))
    have HTA2 := Lib.hid ((HTX.out.below hb HTX.out.lt).alloc (.cells #[.int .i64 (gm : Int), .string gs, .int .i64 (gz : Int), .int .i64 (ga : Int), .int .u32 (gu : Int)] 24))
    have HPG := Lib.hid (lcPut_yes w1.heap.size gm gs gz ga gu _ (HWI.out.below HBA.out hw0 (by have := HBA.out.size; omega)) hgu hg HTA2.out)
    have hgln : gs.data.toList.length = gs.size := by rw [Array.length_toList]; rfl
    have HGL : Hid ((headB gm gs.data.toList gz ga gu).length = 22 + gs.size) := by show _ = _; rw [headB_length, hgln]
    have HGT := Lib.hid hgt
    obtain ⟨b, o, rfl, hbB, hcell⟩ := HYC.out (by rw [byteCells_length, hlb]; omega)
    have HCK : Hid (Bytes w w.heap.size (some ⟨b, o, none⟩) (cs.take (22 + gs.size))) := fun _ => ⟨b, o, rfl, hbB, fun j u hu => hcell j u (by
      unfold byteCells at hu ⊢
      rw [List.getElem?_map, List.getElem?_take] at hu
      split at hu
      · rw [List.getElem?_map]; exact hu
      · simp at hu)⟩
    rw [HGT.out] at HCK
    generalize headB gm gs.data.toList gz ga gu = gb at *
    clear hb he hg hgu hgt hcell hgln
    have hgl' : 22 + gs.size ≤ lc := by omega
    have hgm : ¬ lc < 22 + gs.size := by omega
    have hgi : ¬ (lc : Int) < 22 + (gs.size : Int) := by omega
    have hmn : min ((22 : Int) + (gs.size : Int)) (lc : Int) = 22 + (gs.size : Int) := by omega
    have hgd : (22 : Int) + (gs.size : Int) ≤ (cc : Int) := by omega
    have hgz : (0 : Int) ≤ 22 + (gs.size : Int) := by omega
    have htn : ((22 : Int) + (gs.size : Int)).toNat = 22 + gs.size := by omega
    have hgc : 22 + gs.size ≤ cc := by omega
    go_wp2_with fail
    refine HPG.out.mono ?_
    rintro e w8 ⟨A8, k8, rfl, hown, hb8⟩
    have HB8 := Lib.hid (HBA.out.trans (hb8.mono HBA.out.size))
    have HO8 := Lib.hid hown.cells
    have HCV : Hid (∀ (W : World) (A : Option Addr) (c' B : Nat), Bytes W B A gb → (convert 29 9 (.slice A (22 + gs.size) c')).run Tryd.prog W = .ok (.string ⟨gb.toArray⟩) W) := fun W A c' B h => run_string_of 29 9 5 Tryd.underlying29 Tryd.underlying5 Tryd.underlying9 h HGL.out
    generalize hs1 : (⟨gb.toArray⟩ : ByteArray) = st at *
    clear hs1 hown hb8
    have k1 := HCV.out w8.drew A8 k8 _ HO8.out
    have k2 := HCV.out w8.drew (some ⟨b, o, none⟩) cc _ (HCK.out.below HB8.out.drew (Nat.le_refl _))
    go_wp2_with fail
    have k3 := HCV.out w8 A8 k8 _ HO8.out
    have k4 := HCV.out w8 (some ⟨b, o, none⟩) cc _ (HCK.out.below HB8.out (Nat.le_refl _))
    clear HLK HTA HYA HYC HLB HPG HTA2 HBA HGL HGT HCK HCV HO8 HTX HBX hbB
    go_still_tail 15, (by kernel_rfl)
    change wpList _ _ _ _ _ w8.drew
    have HB9 := Lib.hid HB8.out.drew
    generalize w8.drew = w9 at *
    clear HB8
    go_wp2_with (go_at_call 6; refine (lcLives_any _ (HWI.out.below HB9.out hw0 (by have := HB9.out.size; omega))).mono ?_; rintro e w16 ⟨rfl, hb⟩; have HB16 := Lib.hid (HB9.out.trans (hb.mono HB9.out.size)); clear hb)
    go_ret
    exact ⟨rfl, HB16.out⟩

theorem lcback_any (m : Int) (s : ByteArray) (sz ar su : Int) (A : Option Addr) (la ca : Nat) (hs : List UInt8) (C : Option Addr) (lc cc : Nat) (cs : List UInt8) (w : World) (hW : Wid w) (hlc : lc ≤ cc)
    (hla : hs.length = la) (hlb : cs.length = lc) (hba : Bytes w w.heap.size A hs) (hbc : Bytes w w.heap.size C cs) (s0 : 0 ≤ su) (s1 : su < 4294967296) :
    Calls Tryd.prog 5 #[.agg #[.int .i64 m, .string s, .int .i64 sz, .int .i64 ar, .int .u32 su], .slice A la ca, .slice C lc cc] w fun e w' => e = .returned (.bool true) ∧ Below w.heap.size w w' := by
  by_cases hl : 300 < s.size ∨ 500 < la ∨ 500 < lc
  · exact lcback_long m s sz ar su A la ca C lc cc w hW hl
  cases hr : hdB m s.data.toList sz ar su with
  | false => exact lcback_no m s sz ar su A la ca hs C lc cc cs w hW (by omega) (by omega) (by omega) hlc hla hlb hba hbc hr
  | true =>
    obtain ⟨m0, _, z0, _, a0, _⟩ := hdB_nums hr
    obtain ⟨m, rfl⟩ := Int.eq_ofNat_of_zero_le m0
    obtain ⟨sz, rfl⟩ := Int.eq_ofNat_of_zero_le z0
    obtain ⟨ar, rfl⟩ := Int.eq_ofNat_of_zero_le a0
    obtain ⟨su, rfl⟩ := Int.eq_ofNat_of_zero_le s0
    exact lcback_yes m s sz ar su A la ca hs C lc cc cs w hW (by omega) (by omega) (by omega) hlc hla hlb hba hbc (by omega) hr
end Go.Proofs.YtkhmcaoabfifcaaDoor
