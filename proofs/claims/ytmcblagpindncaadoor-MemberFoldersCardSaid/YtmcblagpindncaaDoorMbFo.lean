/- Layer 15: MemberFolders walked. -/
import Derived.Test.YtmcblagpindncaaDoorMbFp
namespace Go.Proofs.YtmcblagpindncaaDoor
open Go.RowKit

set_option maxRecDepth 100000 in
set_option maxHeartbeats 4000000 in
theorem memberfolders_any (A : Option Addr) (l c : Nat) (ss : List (List UInt8)) (f : ByteArray) (w : World) (hl : ss.length = l) (hb : Cells w w.heap.size A (textCells ss)) :
    Calls Tryd.prog 4 #[.slice A l c, .string f] w fun e w' => e = .returned (.bool true) ∧ Below w.heap.size w w' := by
  have HGR := Lib.hid (great15_any A l c ss w.heap.size w hl hb)
  have HLV := Lib.hid (fun W => lives15_any W)
  have HL := Lib.hid hl
  have HC := Lib.hid hb
  clear hl hb
  go_enter Tryd.func4, Tryd.ntmps4
  go_wp2_with fail
  refine HGR.out.mono ?_
  rintro e w' ⟨og, rfl, rfl, hnar⟩
  cases og with
  | true =>
    go_wp2_with (go_at_call 7; refine (HLV.out _).mono ?_; rintro e w' ⟨rfl, hbel⟩; have HB := Lib.hid hbel; clear hbel)
    go_ret
    exact ⟨rfl, HB.out⟩
  | false =>
    obtain ⟨h60, h200⟩ := hnar rfl
    have H200 := Lib.hid h200
    have hl60 : l ≤ 60 := by have := HL.out; omega
    clear HGR hnar h200 h60
    by_cases hs : 200 < f.size
    · have hd : (200 : Int) < (f.size : Int) := by omega
      clear hs
      go_wp2_with (go_at_call 7; refine (HLV.out _).mono ?_; rintro e w' ⟨rfl, hbel⟩; have HB := Lib.hid hbel; clear hbel)
      go_ret
      exact ⟨rfl, HB.out⟩
    · have hd : ¬ (200 : Int) < (f.size : Int) := by omega
      have hf : f.size ≤ 1000 := by omega
      have HFS : Hid (f.size ≤ 200) := by show _ ≤ _; omega
      clear hs
      have HMI := Lib.hid (fun (x : ByteArray) W (hx : x.size ≤ maxLen) => memIn_any f x W hf hx)
      have HRI := Lib.hid (fun (x : ByteArray) W (hx : x.size ≤ maxLen) => refIn_any f x W hf hx)
      have HF := Lib.hid hf
      clear hf
      go_wp2
      go_loopg [5, 6, 7] l (fun gk u v i wr => ∃ k : Nat, ∃ os : List (List UInt8), k + gk = l ∧ i = .int .i64 (k : Int) ∧ os = inS f (ss.take k) ∧ wr.ownsRow w.heap.size 9 1 u os.length (textCells os) ∧ wr.ownsRow w.heap.size 9 1 v os.length (textCells (os.map (childL f))) ∧ (∀ q, ownS u q → ¬ ownS v q) ∧ Below w.heap.size w wr)
      case atStart => exact ⟨0, [], by omega, rfl, rfl, World.ownsRow_nil _ _ _ _, World.ownsRow_nil _ _ _ _, (fun q hq => by cases hq), Below.refl _ _⟩
      case round =>
        obtain ⟨k, os, hk, rfl, hos, hu, hv, hap, hbel⟩ := hrel
        have HU := Lib.hid hu
        have HV := Lib.hid hv
        have HBL := Lib.hid hbel
        have HOS := Lib.hid hos
        have HAP := Lib.hid hap
        have HOL : Hid (os.length ≤ k) := by
          show _ ≤ _
          rw [hos]
          exact Nat.le_trans (List.length_filter_le _ _) (by rw [List.length_take]; omega)
        clear hu hv hbel hos hap
        obtain ⟨Au, cu, rfl⟩ := own_form' HU.out
        obtain ⟨Av, cv, rfl⟩ := own_form' HV.out
        by_cases h : k < l
        · obtain ⟨x, hx⟩ : ∃ x, ss[k]? = some x := ⟨_, List.getElem?_eq_getElem (by have := HL.out; omega)⟩
          obtain ⟨b, o, rfl, hbB, hc⟩ := HC.out (by rw [text_len]; have := HL.out; omega)
          have HCX : Hid (∀ W, Below w.heap.size w W → W.cell? ⟨b, o + k, none⟩ = some (.string ⟨x.toArray⟩)) := fun W hW => (hW.cell (p := ⟨b, o + k, none⟩) hbB).trans (hc k _ (textCells_get hx))
          have c0 := HCX.out _ HBL.out
          have hxl : x.length ≤ 200 := H200.out x (List.mem_of_getElem? hx)
          have hw1 : IntKind.i64.wrap ((k : Int) + 1) = (k : Int) + 1 := IntWalk.i64_in _ (by omega)
          have hki : (k : Int) < (l : Int) := by omega
          have HTK := Lib.hid (takeT_snoc hx)
          have HM := Lib.hid (fun W => HMI.out ⟨x.toArray⟩ W (by rw [txt_size]; unfold maxLen; omega))
          have HR := Lib.hid (fun W => HRI.out ⟨x.toArray⟩ W (by rw [txt_size]; unfold maxLen; omega))
          obtain ⟨q, hq⟩ : ∃ q, inF f ⟨x.toArray⟩ = q := ⟨_, rfl⟩
          rw [hq] at HM HR
          have HSN := Lib.hid (inS_snoc f (ss.take k) x)
          rw [show inT f x = q from hq] at HSN
          have HQ := Lib.hid hq
          have HXL := Lib.hid hxl
          clear hc hx hq hbB hxl
          cases q with
          | false =>
            rw [if_neg (by decide)] at HSN
            go_wp2_with (first
              | (go_at_call 15; refine (HR.out _).mono ?_; rintro e w1 ⟨rfl, hb1⟩; have HB1 := Lib.hid (HBL.out.trans (hb1.mono HBL.out.size)); have HU1 := Lib.hid (own_keep HU.out (Mod.of_below hb1) (fun _ _ hh => hh)); have HV1 := Lib.hid (own_keep HV.out (Mod.of_below hb1) (fun _ _ hh => hh)); have c1 := HCX.out _ HB1.out; clear hb1)
              | (go_at_call 16; refine (HM.out _).mono ?_; rintro e w2 ⟨rfl, hb2⟩; have HB2 := Lib.hid (HB1.out.trans (hb2.mono HB1.out.size)); have HU2 := Lib.hid (own_keep HU1.out (Mod.of_below hb2) (fun _ _ hh => hh)); have HV2 := Lib.hid (own_keep HV1.out (Mod.of_below hb2) (fun _ _ hh => hh)); clear hb2))
            go_roundg (gk - 1)
            case measure => omega
            case rel => exact ⟨k + 1, os, by omega, by go_num, by rw [HTK.out, HSN.out]; exact HOS.out, HU2.out, HV2.out, HAP.out, HB2.out⟩
          | true =>
            rw [if_pos rfl] at HSN
            have hol := HOL.out
            have HPT : Hid ((partsS (restL f x)).length ≤ 201) := by
              have h1 := partsL_length (restL f x)
              have h2 : (restL f x).length ≤ x.length := by unfold restL; split; exact Nat.le_refl _; rw [List.length_drop]; omega
              have := HXL.out
              show _ ≤ _
              omega
            have HRL : Hid ((restL f x).length ≤ 200) := by
              have h2 : (restL f x).length ≤ x.length := by unfold restL; split; exact Nat.le_refl _; rw [List.length_drop]; omega
              have := HXL.out
              show _ ≤ _
              omega
            have HRP : Hid (∀ W, Calls Tryd.prog 12 #[.string ⟨(restL f x).toArray⟩] W fun e w' => ∃ A c, e = .returned (.slice A (partsS (restL f x)).length c) ∧ OwnT w' W.heap.size 9 (.slice A (partsS (restL f x)).length c) (partsS (restL f x)).length (textCells (partsS (restL f x))) ∧ Below W.heap.size W w') := fun W => refParts_any ⟨(restL f x).toArray⟩ W (by rw [txt_size]; have := HRL.out; omega)
            have hp0 : 0 < (partsS (restL f x)).length := List.length_pos_iff.2 (partsL_ne _)
            have HHD : Hid ((partsS (restL f x))[0]? = some (childL f x)) := by
              show _ = _
              unfold childL cutH
              cases hpp : partsS (restL f x) with
              | nil => exact (partsL_ne _ hpp).elim
              | cons a t => rfl
            obtain ⟨np, hnp⟩ : ∃ np, (partsS (restL f x)).length = np := ⟨_, rfl⟩
            have hnpi : (0 : Int) < (np : Int) := by omega
            rw [hnp] at HRP
            by_cases hf0 : f.size = 0
            · have hfe := nil_size hf0
              have hrx : restL f x = x := if_pos hf0
              rw [hrx] at HRP HHD
              subst hfe
              have HNP := Lib.hid hnp
              rw [hrx] at HNP
              replace hp0 : 0 < np := by omega
              clear hf0 hnp hrx HPT HRL
              go_wp2_with (first
                | (go_at_call 15; refine (HR.out _).mono ?_; rintro e w1 ⟨rfl, hb1⟩; have HB1 := Lib.hid (HBL.out.trans (hb1.mono HBL.out.size)); have HU1 := Lib.hid (own_keep HU.out (Mod.of_below hb1) (fun _ _ hh => hh)); have HV1 := Lib.hid (own_keep HV.out (Mod.of_below hb1) (fun _ _ hh => hh)); have c1 := HCX.out _ HB1.out; clear hb1)
                | (go_at_call 16; refine (HM.out _).mono ?_; rintro e w2 ⟨rfl, hb2⟩; have HB2 := Lib.hid (HB1.out.trans (hb2.mono HB1.out.size)); have HU2 := Lib.hid (own_keep HU1.out (Mod.of_below hb2) (fun _ _ hh => hh)); have HV2 := Lib.hid (own_keep HV1.out (Mod.of_below hb2) (fun _ _ hh => hh)); have c2 := HCX.out _ HB2.out; have hz2 := HB2.out.size; clear hb2)
                | (at_builtin; refine wpList_app1 w2 textElem rfl (.tmp 40) (.tmp 45) rfl w.heap.size (.slice Au os.length cu) os.length (textCells os) rfl HU2.out #[.string ⟨x.toArray⟩] rfl rfl (by simp [Value.oneCell']) (by unfold maxLen; omega) (by omega) hz2 ?_; intro A3 c3 w3 hA; have HA3 := Lib.hid hA; have HB3 := Lib.hid (hA.below HB2.out hz2 (fun q hq => (HU2.out.lt q hq).1)); have HV3 := Lib.hid (own_keep HV2.out (Mod.of_app hA) (fun q hq hq2 => HAP.out q hq2 hq)); have HP3 : Hid (∀ q, ownS (.slice A3 (os.length + 1) c3) q → ¬ ownS (.slice Av os.length cv) q) := (fun q hq hq2 => by rcases hA.place q hq with h1 | h1; exact HAP.out q h1 hq2; have := own_lt HV2.out q hq2; omega); have d3 := HCX.out _ HB3.out; clear hA)
                | (go_at_call 12; refine (HRP.out _).mono ?_; rintro e w4 ⟨A4, c4, rfl, ho4, hb4⟩; obtain ⟨b5, o5, rfl, _, hcc⟩ := ho4.cells (by rw [text_len, HNP.out]; exact hp0); have e5 := hcc 0 _ (textCells_get HHD.out); rw [Nat.add_zero] at e5; have HB4 := Lib.hid (HB3.out.trans (hb4.mono HB3.out.size)); have HU4 := Lib.hid (own_keep HA3.out.own (Mod.of_below hb4) (fun _ _ hh => hh)); have HV4 := Lib.hid (own_keep HV3.out (Mod.of_below hb4) (fun _ _ hh => hh)); have hz4 := HB4.out.size; clear hb4 hcc ho4)
                | (at_builtin; go_must (skip; refine wpList_app1 w4 textElem rfl (.tmp 61) (.tmp 66) rfl w.heap.size (.slice Av os.length cv) os.length (textCells (os.map (childL ⟨#[]⟩))) rfl HV4.out #[.string ⟨(childL ⟨#[]⟩ x).toArray⟩] rfl rfl (by simp [Value.oneCell']) (by unfold maxLen; omega) (by omega) hz4 ?_; intro A6 c6 w6 hA; have HA6 := Lib.hid hA; have HB6 := Lib.hid (hA.below HB4.out hz4 (fun q hq => (HV4.out.lt q hq).1)); have HU6 := Lib.hid (own_keep HU4.out (Mod.of_app hA) HP3.out); have HP6 : Hid (∀ q, ownS (.slice A3 (os.length + 1) c3) q → ¬ ownS (.slice A6 (os.length + 1) c6) q) := (fun q hq hq2 => by rcases hA.place q hq2 with h1 | h1; exact HP3.out q hq h1; have := own_lt HU4.out q hq; omega); clear hA)))
              go_roundg (gk - 1)
              case measure => omega
              case rel =>
                refine ⟨k + 1, os ++ [x], by omega, by go_num, by rw [HTK.out, HSN.out, HOS.out], ?_, ?_, ?_, HB6.out⟩
                · rw [← textCells_snoc, List.length_append]
                  exact HU6.out
                · rw [List.map_append, List.map_singleton, ← textCells_snoc, List.length_append]
                  exact HA6.out.own
                · exact HP6.out
            · have hrx : restL f x = x.drop (f.size + 1) := if_neg hf0
              have hne := not_nil hf0
              have hne2 : (f.toList == (⟨#[]⟩ : ByteArray).toList) = false := by rw [nmEq_dec]; exact decide_eq_false (fun e => hf0 (by rw [e]; rfl))
              have hne3 : (f.toList == ([] : List UInt8)) = false := by rw [beq_eq_false_iff_ne]; exact hne
              have hne4 : decide (f.toList = ([] : List UInt8)) = false := decide_eq_false hne
              have hne5 : f.toList.isEmpty = false := by rw [List.isEmpty_eq_false_iff]; exact hne
              have hpl := pre_len (p := x) HQ.out hf0
              have HEX : Hid ((⟨x.toArray⟩ : ByteArray).extract (f.size + 1) x.length = ⟨(restL f x).toArray⟩) := by
                show _ = _
                have h1 := extract_drop ⟨x.toArray⟩ (f.size + 1)
                rw [txt_size x] at h1
                rw [h1, hrx]
              have hw2 : IntKind.i64.wrap ((f.size : Int) + 1) = (f.size : Int) + 1 := IntWalk.i64_in _ (by have := HFS.out; omega)
              have HNP := Lib.hid hnp
              replace hp0 : 0 < np := by omega
              clear hf0 hnp hrx HPT HRL
              go_wp2_with (first
                | (go_at_call 15; refine (HR.out _).mono ?_; rintro e w1 ⟨rfl, hb1⟩; have HB1 := Lib.hid (HBL.out.trans (hb1.mono HBL.out.size)); have HU1 := Lib.hid (own_keep HU.out (Mod.of_below hb1) (fun _ _ hh => hh)); have HV1 := Lib.hid (own_keep HV.out (Mod.of_below hb1) (fun _ _ hh => hh)); have c1 := HCX.out _ HB1.out; clear hb1)
                | (go_at_call 16; refine (HM.out _).mono ?_; rintro e w2 ⟨rfl, hb2⟩; have HB2 := Lib.hid (HB1.out.trans (hb2.mono HB1.out.size)); have HU2 := Lib.hid (own_keep HU1.out (Mod.of_below hb2) (fun _ _ hh => hh)); have HV2 := Lib.hid (own_keep HV1.out (Mod.of_below hb2) (fun _ _ hh => hh)); have c2 := HCX.out _ HB2.out; have hz2 := HB2.out.size; clear hb2)
                | (at_builtin; refine wpList_app1 w2 textElem rfl (.tmp 40) (.tmp 45) rfl w.heap.size (.slice Au os.length cu) os.length (textCells os) rfl HU2.out #[.string ⟨x.toArray⟩] rfl rfl (by simp [Value.oneCell']) (by unfold maxLen; omega) (by omega) hz2 ?_; intro A3 c3 w3 hA; have HA3 := Lib.hid hA; have HB3 := Lib.hid (hA.below HB2.out hz2 (fun q hq => (HU2.out.lt q hq).1)); have HV3 := Lib.hid (own_keep HV2.out (Mod.of_app hA) (fun q hq hq2 => HAP.out q hq2 hq)); have HP3 : Hid (∀ q, ownS (.slice A3 (os.length + 1) c3) q → ¬ ownS (.slice Av os.length cv) q) := (fun q hq hq2 => by rcases hA.place q hq with h1 | h1; exact HAP.out q h1 hq2; have := own_lt HV2.out q hq2; omega); have d3 := HCX.out _ HB3.out; clear hA)
                | (go_at_call 12; rw [HEX.out]; refine (HRP.out _).mono ?_; rintro e w4 ⟨A4, c4, rfl, ho4, hb4⟩; obtain ⟨b5, o5, rfl, _, hcc⟩ := ho4.cells (by rw [text_len, HNP.out]; exact hp0); have e5 := hcc 0 _ (textCells_get HHD.out); rw [Nat.add_zero] at e5; have HB4 := Lib.hid (HB3.out.trans (hb4.mono HB3.out.size)); have HU4 := Lib.hid (own_keep HA3.out.own (Mod.of_below hb4) (fun _ _ hh => hh)); have HV4 := Lib.hid (own_keep HV3.out (Mod.of_below hb4) (fun _ _ hh => hh)); have hz4 := HB4.out.size; clear hb4 hcc ho4)
                | (at_builtin; go_must (skip; refine wpList_app1 w4 textElem rfl (.tmp 61) (.tmp 66) rfl w.heap.size (.slice Av os.length cv) os.length (textCells (os.map (childL f))) rfl HV4.out #[.string ⟨(childL f x).toArray⟩] rfl rfl (by simp [Value.oneCell']) (by unfold maxLen; omega) (by omega) hz4 ?_; intro A6 c6 w6 hA; have HA6 := Lib.hid hA; have HB6 := Lib.hid (hA.below HB4.out hz4 (fun q hq => (HV4.out.lt q hq).1)); have HU6 := Lib.hid (own_keep HU4.out (Mod.of_app hA) HP3.out); have HP6 : Hid (∀ q, ownS (.slice A3 (os.length + 1) c3) q → ¬ ownS (.slice A6 (os.length + 1) c6) q) := (fun q hq hq2 => by rcases hA.place q hq2 with h1 | h1; exact HP3.out q hq h1; have := own_lt HU4.out q hq; omega); clear hA)))
              go_roundg (gk - 1)
              case measure => omega
              case rel =>
                refine ⟨k + 1, os ++ [x], by omega, by go_num, by rw [HTK.out, HSN.out, HOS.out], ?_, ?_, ?_, HB6.out⟩
                · rw [← textCells_snoc, List.length_append]
                  exact HU6.out
                · rw [List.map_append, List.map_singleton, ← textCells_snoc, List.length_append]
                  exact HA6.out.own
                · exact HP6.out
        · obtain rfl : k = l := by omega
          have HOE : Hid (inS f ss = os) := by show _ = _; rw [HOS.out, List.take_of_length_le (by have := HL.out; omega)]
          have hol := HOL.out
          have HUM := Lib.hid (underM_any A k c ss f w.heap.size wr HL.out (by omega) (HC.out.below HBL.out (Nat.le_refl _)) HBL.out.size HF.out (fun p hp => by have := H200.out p hp; unfold maxLen; omega))
          have HCM := Lib.hid (fun W (hW : Below w.heap.size w W) => childrenM_any A k c ss f w.heap.size W HL.out (by omega) (HC.out.below hW (Nat.le_refl _)) hW.size HF.out (fun p hp => by have := H200.out p hp; omega))
          have hcl := children_L f ss
          rw [HOE.out] at hcl HUM
          rw [HOE.out] at HCM
          rw [hcl] at HCM
          have HS1 := Lib.hid (fun W (hW : Below wr.heap.size wr W) => refSortT_any Au os.length cu os wr.heap.size W rfl (by omega) ((textCells_own HU.out).below hW (Nat.le_refl _)) hW.size)
          have HS2 := Lib.hid (fun W (hW : Below wr.heap.size wr W) => refSortT_any Av os.length cv (os.map (childL f)) wr.heap.size W (by rw [List.length_map]) (by omega) ((textCells_own HV.out).below hW (Nat.le_refl _)) hW.size)
          have hl1 := sortB_len os
          have hl2 := sortB_len (os.map (childL f))
          rw [List.length_map] at hl2
          obtain ⟨us, hus⟩ : ∃ us, sortB os = us := ⟨_, rfl⟩
          obtain ⟨vs, hvs⟩ : ∃ vs, sortB (os.map (childL f)) = vs := ⟨_, rfl⟩
          rw [hus] at HUM HS1 hl1
          rw [hvs] at HCM HS2 hl2
          clear hcl hus hvs
          go_wp2_with fail
          refine HUM.out.mono ?_
          rintro e w1 ⟨A1, c1, rfl, ho1, hb1⟩
          have HB1 := Lib.hid hb1
          have HC1 := Lib.hid (textCells_own ho1)
          clear ho1 hb1 HUM
          go_wp2_with fail
          refine (HS1.out _ HB1.out).mono ?_
          rintro e w2 ⟨A2, c2, rfl, ho2, hb2⟩
          have HB2 := Lib.hid (HB1.out.trans (hb2.mono HB1.out.size))
          have HC2 := Lib.hid (textCells_own ho2)
          have HD2 := Lib.hid ((HC1.out.below hb2 (Nat.le_refl _)).more hb2.size)
          clear ho2 hb2 HS1
          go_wp2_with fail
          refine (sameT_any A1 us.length c1 A2 c2 us w2.heap.size w2 rfl (by omega) HD2.out HC2.out).mono ?_
          rintro e w3 ⟨rfl, m3, hw3⟩
          have HB3 : Hid (Below wr.heap.size wr w3) := by show Below _ _ _; rw [← hw3]; exact Below.drewN HB2.out _
          clear hw3
          go_wp2_with fail
          refine (HCM.out _ (HBL.out.trans (HB3.out.mono HBL.out.size))).mono ?_
          rintro e w4 ⟨A4, c4, rfl, ho4, hb4⟩
          have HB4 := Lib.hid (HB3.out.trans (hb4.mono HB3.out.size))
          have HC4 := Lib.hid (textCells_own ho4)
          clear ho4 hb4 HCM
          go_wp2_with fail
          refine (HS2.out _ HB4.out).mono ?_
          rintro e w5 ⟨A5, c5, rfl, ho5, hb5⟩
          have HB5 := Lib.hid (HB4.out.trans (hb5.mono HB4.out.size))
          have HC5 := Lib.hid (textCells_own ho5)
          have HD5 := Lib.hid ((HC4.out.below hb5 (Nat.le_refl _)).more hb5.size)
          clear ho5 hb5 HS2
          go_wp2_with fail
          refine (sameT_any A4 vs.length c4 A5 c5 vs w5.heap.size w5 rfl (by omega) HD5.out HC5.out).mono ?_
          rintro e w6 ⟨rfl, m6, hw6⟩
          have HB6 : Hid (Below wr.heap.size wr w6) := by show Below _ _ _; rw [← hw6]; exact Below.drewN HB5.out _
          clear hw6
          go_wp2_with (go_at_call 7; refine (HLV.out _).mono ?_; rintro e w7 ⟨rfl, hb7⟩; have HB7 := Lib.hid (HB6.out.trans (hb7.mono HB6.out.size)); clear hb7)
          go_ret
          exact ⟨rfl, HBL.out.trans (HB7.out.mono HBL.out.size)⟩
end Go.Proofs.YtmcblagpindncaaDoor
