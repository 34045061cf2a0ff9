/- Layer 17: StoneBack walked. -/
import Derived.Test.YtakjpkhholgdbaaDoorStApart
import Derived.Test.YtakjpkhholgdbaaDoorKSum
namespace Go.Proofs.YtakjpkhholgdbaaDoor
open Go.RowKit CrcP FieldP
attribute [local go_sem ↓] Go.wp_at_zero Go.wp_at_succ

set_option maxHeartbeats 1000000 in
theorem stback_long (s : ByteArray) (A : Option Addr) (la ca : Nat) (C : Option Addr) (lc cc : Nat) (w : World) (h : 300 < s.size ∨ 500 < la ∨ 500 < lc) :
    Calls Tryd.prog 5 #[.string s, .slice A la ca, .slice C lc cc] w fun e w' => e = .returned (.bool true) ∧ Below w.heap.size w w' := by
  by_cases h1 : 300 < s.size
  · have hL : (300 : Int) < s.size := by omega
    clear h h1
    go_enter Tryd.func5, Tryd.ntmps5
    go_wp2_with (go_at_call 7; refine (stLives_any _).mono ?_; rintro e w6 ⟨rfl, hb⟩; have HB6 := Lib.hid hb; clear hb)
    go_ret
    exact ⟨rfl, HB6.out⟩
  have hL : ¬ (300 : Int) < s.size := by omega
  by_cases h2 : 500 < la
  · have hL2 : (500 : Int) < la := by omega
    clear h h1 h2
    go_enter Tryd.func5, Tryd.ntmps5
    go_wp2_with (go_at_call 7; refine (stLives_any _).mono ?_; rintro e w6 ⟨rfl, hb⟩; have HB6 := Lib.hid hb; clear hb)
    go_ret
    exact ⟨rfl, HB6.out⟩
  have hL2 : ¬ (500 : Int) < la := by omega
  have hL3 : (500 : Int) < lc := by omega
  clear h h1 h2
  go_enter Tryd.func5, Tryd.ntmps5
  go_wp2_with (go_at_call 7; refine (stLives_any _).mono ?_; rintro e w6 ⟨rfl, hb⟩; have HB6 := Lib.hid hb; clear hb)
  go_ret
  exact ⟨rfl, HB6.out⟩

set_option maxRecDepth 100000 in
set_option maxHeartbeats 800000 in
theorem stback_no (s : ByteArray) (A : Option Addr) (la ca : Nat) (hs : List UInt8) (C : Option Addr) (lc cc : Nat) (cs : List UInt8) (w : World) (hW : Wid w) (hm : s.size ≤ 300) (ha : la ≤ 500) (hc : lc ≤ 500) (hlc : lc ≤ cc)
    (hla : hs.length = la) (hlb : cs.length = lc) (hba : Bytes w w.heap.size A hs) (hbc : Bytes w w.heap.size C cs) (hr : rightB s.data.toList = false) :
    Calls Tryd.prog 5 #[.string s, .slice A la ca, .slice C lc cc] w fun e w' => e = .returned (.bool true) ∧ Below w.heap.size w w' := by
  have hz := (zero_of_info tableInfo).1
  have HSZ := Lib.hid tableSize
  have hL1 : ¬ (300 : Int) < s.size := by omega
  have hL2 : ¬ (500 : Int) < la := by omega
  have hL3 : ¬ (500 : Int) < lc := by omega
  have HWI := Lib.hid hW
  have hw0 := hW.1
  have HYA := Lib.hid hba
  have HYC := Lib.hid hbc
  have HTK := Lib.hid (fun tg W (hT : Table W tg) (h : Bytes W w.heap.size C cs) (hB : w.heap.size ≤ W.heap.size) => stTake_all tg C lc cc cs w.heap.size 0 W hT hlb (by omega) hlc h hB)
  have HLK := Lib.hid (fun tg W (hT : Table W tg) (hV : Wid W) (h : Bytes W w.heap.size C cs) (hB : w.heap.size ≤ W.heap.size) => lcTake_all tg C lc cc cs w.heap.size 0 W hT hV hlb (by omega) hlc h hB)
  obtain ⟨S, K, E, he⟩ := stAns_form cs 0
  obtain ⟨m, S2, sz, ar, su, K2, E2, he2⟩ := lcAns_form cs 0
  have HAP : Hid (E = 0 → lcAns cs 0 = .tuple #[.agg #[.int .i64 0, .string ⟨#[]⟩, .int .i64 0, .int .i64 0, .int .u32 0], .int .i64 0, .int .i64 3]) := fun h => by subst h; exact apart (q := 0) he
  have HE2 := Lib.hid he2
  rw [he] at HTK
  clear he he2
  clear hba hbc hW
  go_enter Tryd.func5, Tryd.ntmps5
  go_wp2_with fail
  refine (make_any _).mono ?_
  rintro e w1 ⟨rfl, hb⟩
  have HG := Lib.hid (heap_alloc_last w1 (.cells (Array.replicate 256 (.int .u32 0)) 25))
  have HB := Lib.hid hb
  clear hb
  go_wp2_with (refine wpList_store_row rfl 25 _ _ rfl w1.heap.size tabCells rfl rfl 25 _ HG.out HSZ.out (by rw [Array.size_replicate, tabCells_size]) tabCells_one ?_; rw [World.setRow_alloc_new])
  have HTB := Lib.hid (table_new w1)
  have HB2 := Lib.hid (HB.out.alloc HB.out.size (.cells tabCells 25))
  generalize w1.alloc (.cells tabCells 25) = w2 at *
  clear hz HG HSZ
  refine (stPut_no w1.heap.size s w2 (by unfold maxLen; omega) hr).mono ?_
  rintro e w3 ⟨rfl, hb⟩
  have HBX := Lib.hid (HB2.out.trans (hb.mono HB2.out.size))
  have HTX := Lib.hid (HTB.out.below hb HTB.out.lt)
  clear hb
  go_wp2_with fail
  refine (HTK.out _ _ HTX.out (HYC.out.below HBX.out (Nat.le_refl _)) HBX.out.size).mono ?_
  rintro e wa ⟨rfl, hb⟩
  have HBA := Lib.hid (HBX.out.trans (hb.mono HBX.out.size))
  have HTA := Lib.hid (HTX.out.below hb HTX.out.lt)
  clear hb
  have hwa := HBA.out.size
  have HLQ := Lib.hid (HLK.out _ _ HTA.out (HWI.out.below HBA.out hw0 (by omega)) (HYC.out.below HBA.out (Nat.le_refl _)) HBA.out.size)
  by_cases hE : E = 0
  · subst hE
    rw [HAP.out rfl] at HLQ
    go_wp2_with (first | (go_at_call 16; refine HLQ.out.mono ?_; rintro e wb ⟨rfl, hb⟩; have HBB := Lib.hid (HBA.out.trans (hb.mono HBA.out.size)); have HBN := Lib.hid (HBB.out.alloc HBB.out.size (.cells #[.int .i64 0, .string ⟨#[]⟩, .int .i64 0, .int .i64 0, .int .u32 0] 40)); clear hb) | (go_at_call 7; refine (stLives_any _).mono ?_; rintro e w6 ⟨rfl, hb⟩; have HB6 := Lib.hid (HBN.out.trans (hb.mono HBN.out.size)); clear hb))
    go_ret
    exact ⟨rfl, HB6.out⟩
  · rw [HE2.out] at HLQ
    go_wp2_with (first | (go_at_call 16; refine HLQ.out.mono ?_; rintro e wb ⟨rfl, hb⟩; have HBB := Lib.hid (HBA.out.trans (hb.mono HBA.out.size)); have HBN := Lib.hid (HBB.out.alloc HBB.out.size (.cells #[.int .i64 m, .string S2, .int .i64 sz, .int .i64 ar, .int .u32 su] 40)); clear hb) | (go_at_call 7; refine (stLives_any _).mono ?_; rintro e w6 ⟨rfl, hb⟩; have HB6 := Lib.hid (HBN.out.trans (hb.mono HBN.out.size)); clear hb))
    go_ret
    exact ⟨rfl, HB6.out⟩

set_option maxRecDepth 100000 in
set_option maxHeartbeats 800000 in
theorem stback_yes (s : ByteArray) (A : Option Addr) (la ca : Nat) (hs : List UInt8) (C : Option Addr) (lc cc : Nat) (cs : List UInt8) (w : World) (hW : Wid w) (hm : s.size ≤ 300) (ha : la ≤ 500) (hc : lc ≤ 500) (hlc : lc ≤ cc)
    (hla : hs.length = la) (hlb : cs.length = lc) (hba : Bytes w w.heap.size A hs) (hbc : Bytes w w.heap.size C cs) (hr : rightB s.data.toList = true) :
    Calls Tryd.prog 5 #[.string s, .slice A la ca, .slice C lc cc] w fun e w' => e = .returned (.bool true) ∧ Below w.heap.size w w' := by
  have hz := (zero_of_info tableInfo).1
  have HSZ := Lib.hid tableSize
  have hL1 : ¬ (300 : Int) < s.size := by omega
  have hL2 : ¬ (500 : Int) < la := by omega
  have hL3 : ¬ (500 : Int) < lc := by omega
  have HWI := Lib.hid hW
  have hw0 := hW.1
  have HYA := Lib.hid hba
  have HYC := Lib.hid hbc
  have HTK := Lib.hid (fun tg W (hT : Table W tg) (h : Bytes W w.heap.size C cs) (hB : w.heap.size ≤ W.heap.size) => stTake_all tg C lc cc cs w.heap.size 0 W hT hlb (by omega) hlc h hB)
  have HLK := Lib.hid (fun tg W (hT : Table W tg) (hV : Wid W) (h : Bytes W w.heap.size C cs) (hB : w.heap.size ≤ W.heap.size) => lcTake_all tg C lc cc cs w.heap.size 0 W hT hV hlb (by omega) hlc h hB)
  obtain ⟨S, K, E, he⟩ := stAns_form cs 0
  obtain ⟨m, S2, sz, ar, su, K2, E2, he2⟩ := lcAns_form cs 0
  have HAP : Hid (E = 0 → lcAns cs 0 = .tuple #[.agg #[.int .i64 0, .string ⟨#[]⟩, .int .i64 0, .int .i64 0, .int .u32 0], .int .i64 0, .int .i64 3]) := fun h => by subst h; exact apart (q := 0) he
  have HE2 := Lib.hid he2
  rw [he] at HTK
  clear he he2
  have hln : s.data.toList.length = s.size := by rw [Array.length_toList]; rfl
  have h64 := (rightB_len hr).2
  rw [hln] at h64
  have HBK := Lib.hid (back_ans s hs cs hr)
  have HP := Lib.hid (fun g W (hT : Table W g) => stPut_yes g s W (by unfold maxLen; omega) hr hT)
  have HLN : Hid ((tombB s.data.toList).length = 9 + s.size) := by show _ = _; rw [tombB_length, hln]
  rw [hla] at HBK
  have HLA : Hid ((byteCells hs).length = la) := by show _ = _; rw [byteCells_length]; exact hla
  have HLC : Hid ((byteCells cs).length = lc) := by show _ = _; rw [byteCells_length]; exact hlb
  clear hr hln
  generalize tombB s.data.toList = bs at *
  clear hba hbc hW
  go_enter Tryd.func5, Tryd.ntmps5
  go_wp2_with fail
  refine (make_any _).mono ?_
  rintro e w1 ⟨rfl, hb⟩
  have HG := Lib.hid (heap_alloc_last w1 (.cells (Array.replicate 256 (.int .u32 0)) 25))
  have HB := Lib.hid hb
  clear hb
  go_wp2_with (refine wpList_store_row rfl 25 _ _ rfl w1.heap.size tabCells rfl rfl 25 _ HG.out HSZ.out (by rw [Array.size_replicate, tabCells_size]) tabCells_one ?_; rw [World.setRow_alloc_new])
  have HTB := Lib.hid (table_new w1)
  have HB2 := Lib.hid (HB.out.alloc HB.out.size (.cells tabCells 25))
  generalize w1.alloc (.cells tabCells 25) = w2 at *
  clear hz HG HSZ
  refine (HP.out _ _ HTB.out).mono ?_
  rintro e w3 ⟨Bb, kb, rfl, hown, hb⟩
  have HB3 := Lib.hid (HB2.out.trans (hb.mono HB2.out.size))
  have HT3 := Lib.hid (HTB.out.below hb HTB.out.lt)
  have HY3 := Lib.hid hown.cells
  have HB23 := Lib.hid hb
  clear hb hown HP
  have HN3 := Lib.hid (HB3.out.alloc HB3.out.size (.cells #[] 5))
  have HO3 := Lib.hid (OwnT.of (own_empty w3 5 (base := w3.heap.size) (Nat.le_refl _)))
  have HYA3 := Lib.hid (HYA.out.below HN3.out (Nat.le_refl _))
  have HLB : Hid ((byteCells bs).length = 9 + s.size) := by show _ = _; rw [byteCells_length]; exact HLN.out
  have HT4 := Lib.hid (HT3.out.alloc (.cells #[] 5))
  have HY4 := Lib.hid (Cells.alloc HY3.out (Nat.le_refl _) (.cells #[] 5))
  have hz3 := HB3.out.size
  have HM3 := Lib.hid ((Below.refl w3.heap.size w3).alloc (Nat.le_refl _) (.cells #[] 5))
  have HLT : Hid ((hs ++ bs ++ cs).length = la + (9 + s.size) + lc) := by show _ = _; rw [List.length_append, List.length_append, HLN.out, hla, hlb]
  have HBC : Hid (byteCells hs ++ byteCells bs ++ byteCells cs = byteCells (hs ++ bs ++ cs)) := by show _ = _; rw [byteCells_append, byteCells_append]
  have HF4 := Lib.hid (fun (w4 : World) (A4 : Option Addr) (c4 : Nat) (HA : AppT (w3.alloc (.cells #[] 5)) w3.heap.size 5 (.slice (some ⟨w3.heap.size, 0, none⟩) 0 0) (0 + la) ([] ++ byteCells hs) w4 (.slice A4 (0 + la) c4)) => (⟨by (have h := HA.own; simp only [Nat.zero_add, List.nil_append] at h; exact h), HA.below HM3.out HM3.out.size (fun k hk => (HO3.out.lt k hk).1)⟩ : OwnT w4 w3.heap.size 5 (.slice A4 la c4) la (byteCells hs) ∧ Below w3.heap.size w3 w4))
  have HF5 := Lib.hid (fun (w4 : World) (A4 : Option Addr) (c4 : Nat) (h4 : OwnT w4 w3.heap.size 5 (.slice A4 la c4) la (byteCells hs) ∧ Below w3.heap.size w3 w4) (w5 : World) (A5 : Option Addr) (c5 : Nat) (HA : AppT w4 w3.heap.size 5 (.slice A4 la c4) (la + (9 + s.size)) (byteCells hs ++ byteCells bs) w5 (.slice A5 (la + (9 + s.size)) c5)) => (⟨HA.own, HA.below h4.2 h4.2.size (fun k hk => (h4.1.lt k hk).1)⟩ : OwnT w5 w3.heap.size 5 (.slice A5 (la + (9 + s.size)) c5) (la + (9 + s.size)) (byteCells hs ++ byteCells bs) ∧ Below w3.heap.size w3 w5))
  have HF6 := Lib.hid (fun (w5 : World) (A5 : Option Addr) (c5 : Nat) (h5 : OwnT w5 w3.heap.size 5 (.slice A5 (la + (9 + s.size)) c5) (la + (9 + s.size)) (byteCells hs ++ byteCells bs) ∧ Below w3.heap.size w3 w5) (w6 : World) (A6 : Option Addr) (c6 : Nat) (HA : AppT w5 w3.heap.size 5 (.slice A5 (la + (9 + s.size)) c5) (la + (9 + s.size) + lc) (byteCells hs ++ byteCells bs ++ byteCells cs) w6 (.slice A6 (la + (9 + s.size) + lc) c6)) => (⟨by (have h := HA.own; rw [HBC.out] at h; exact h), HA.below h5.2 h5.2.size (fun k hk => (h5.1.lt k hk).1)⟩ : OwnT w6 w3.heap.size 5 (.slice A6 (la + (9 + s.size) + lc) c6) (la + (9 + s.size) + lc) (byteCells (hs ++ bs ++ cs)) ∧ Below w3.heap.size w3 w6))
  go_wp2_with (first
    | (at_builtin; refine wpList_appT _ byteElem rfl (.tmp 45) (.tmp 46) rfl w3.heap.size (.slice (some ⟨w3.heap.size, 0, none⟩) 0 0) 0 [] rfl HO3.out w.heap.size A la ca (byteCells hs) rfl HLA.out HYA3.out (byteCells_one _) (by unfold maxLen; omega) (by omega) HM3.out.size ?_; intro A4 c4 w4 hA; have HA4 := Lib.hid (HF4.out w4 A4 c4 hA); clear hA; rw [Nat.zero_add])
    | (at_builtin; refine wpList_appT _ byteElem rfl (.tmp 47) (.tmp 48) rfl w3.heap.size (.slice A4 la c4) la (byteCells hs) rfl HA4.out.1 w3.heap.size Bb (9 + s.size) kb (byteCells bs) rfl HLB.out (HY3.out.below HA4.out.2 (Nat.le_refl _)) (byteCells_one _) (by unfold maxLen; omega) (by omega) HA4.out.2.size ?_; intro A5 c5 w5 hA; have HA5 := Lib.hid (HF5.out w4 A4 c4 HA4.out w5 A5 c5 hA); clear hA)
    | (at_builtin; refine wpList_appT _ byteElem rfl (.tmp 49) (.tmp 50) rfl w3.heap.size (.slice A5 (la + (9 + s.size)) c5) (la + (9 + s.size)) (byteCells hs ++ byteCells bs) rfl HA5.out.1 w.heap.size C lc cc (byteCells cs) rfl HLC.out (HYC.out.below (HB3.out.trans (HA5.out.2.mono hz3)) (Nat.le_refl _)) (byteCells_one _) (by unfold maxLen; omega) (by omega) HA5.out.2.size ?_; intro A6 c6 w6 hA; have HA6 := Lib.hid (HF6.out w5 A5 c5 HA5.out w6 A6 c6 hA); clear hA))
  have HB6 := Lib.hid (HB3.out.trans (HA6.out.2.mono hz3))
  have HT6 := Lib.hid (HTB.out.below ((Below.refl w2.heap.size w2).trans (HB23.out.trans (HA6.out.2.mono HB23.out.size))) HTB.out.lt)
  have hw6 := HB6.out.size
  refine (stTake_all w1.heap.size A6 (la + (9 + s.size) + lc) c6 (hs ++ bs ++ cs) w6.heap.size (la : Int) w6 HT6.out HLT.out (by omega) (own_cap HA6.out.1) HA6.out.1.cells (Nat.le_refl _)).mono ?_
  rw [HBK.out.1]
  rintro e w7 ⟨rfl, hb⟩
  have HB7 := Lib.hid (HB6.out.trans (hb.mono hw6))
  have HT7 := Lib.hid (HT6.out.below hb HT6.out.lt)
  have HLL := Lib.hid (lcTake_all w1.heap.size A6 (la + (9 + s.size) + lc) c6 (hs ++ bs ++ cs) w6.heap.size (la : Int) w7 HT7.out (HWI.out.below HB7.out hw0 (by have := HB7.out.size; omega)) HLT.out (by omega) (own_cap HA6.out.1) (HA6.out.1.cells.below hb (Nat.le_refl _)) hb.size)
  rw [HBK.out.2] at HLL
  clear hb
  go_wp2_with (go_at_call 16; refine HLL.out.mono ?_; rintro e w8 ⟨rfl, hb⟩; have HBX := Lib.hid ((HB7.out.trans (hb.mono HB7.out.size)).alloc (HB7.out.trans (hb.mono HB7.out.size)).size (.cells #[.int .i64 0, .string ⟨#[]⟩, .int .i64 0, .int .i64 0, .int .u32 0] 40)); have HTX := Lib.hid ((HT7.out.below hb HT7.out.lt).alloc (.cells #[.int .i64 0, .string ⟨#[]⟩, .int .i64 0, .int .i64 0, .int .u32 0] 40)); clear hb)
  refine (HTK.out _ _ HTX.out (HYC.out.below HBX.out (Nat.le_refl _)) HBX.out.size).mono ?_
  rintro e wa ⟨rfl, hb⟩
  have HBA := Lib.hid (HBX.out.trans (hb.mono HBX.out.size))
  have HTA := Lib.hid (HTX.out.below hb HTX.out.lt)
  clear hb
  have hwa := HBA.out.size
  have HLQ := Lib.hid (HLK.out _ _ HTA.out (HWI.out.below HBA.out hw0 (by omega)) (HYC.out.below HBA.out (Nat.le_refl _)) HBA.out.size)
  by_cases hE : E = 0
  · subst hE
    rw [HAP.out rfl] at HLQ
    go_wp2_with (first | (go_at_call 16; refine HLQ.out.mono ?_; rintro e wb ⟨rfl, hb⟩; have HBB := Lib.hid (HBA.out.trans (hb.mono HBA.out.size)); have HBN := Lib.hid (HBB.out.alloc HBB.out.size (.cells #[.int .i64 0, .string ⟨#[]⟩, .int .i64 0, .int .i64 0, .int .u32 0] 40)); clear hb) | (go_at_call 7; refine (stLives_any _).mono ?_; rintro e w6 ⟨rfl, hb⟩; have HB6 := Lib.hid (HBN.out.trans (hb.mono HBN.out.size)); clear hb))
    go_ret
    exact ⟨rfl, HB6.out⟩
  · rw [HE2.out] at HLQ
    go_wp2_with (first | (go_at_call 16; refine HLQ.out.mono ?_; rintro e wb ⟨rfl, hb⟩; have HBB := Lib.hid (HBA.out.trans (hb.mono HBA.out.size)); have HBN := Lib.hid (HBB.out.alloc HBB.out.size (.cells #[.int .i64 m, .string S2, .int .i64 sz, .int .i64 ar, .int .u32 su] 40)); clear hb) | (go_at_call 7; refine (stLives_any _).mono ?_; rintro e w6 ⟨rfl, hb⟩; have HB6 := Lib.hid (HBN.out.trans (hb.mono HBN.out.size)); clear hb))
    go_ret
    exact ⟨rfl, HB6.out⟩
end Go.Proofs.YtakjpkhholgdbaaDoor
