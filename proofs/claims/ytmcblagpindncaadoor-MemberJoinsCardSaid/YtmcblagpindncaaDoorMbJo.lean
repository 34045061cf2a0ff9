/- Layer 15: MemberJoins walked. -/
import Derived.Test.YtmcblagpindncaaDoorMbJq
namespace Go.Proofs.YtmcblagpindncaaDoor
open Go.RowKit

theorem parts_len_le (s : ByteArray) : (partsS s.data.toList).length ≤ s.size + 1 := by
  have := partsL_length s.data.toList
  rwa [show s.data.toList.length = s.size from rfl] at this
set_option maxRecDepth 100000 in
set_option maxHeartbeats 4000000 in
theorem memberjoins_any (s t : ByteArray) (w : World) :
    Calls Tryd.prog 6 #[.string s, .string t] w fun e w' => e = .returned (.bool true) ∧ Below w.heap.size w w' := by
  have HLV := Lib.hid (fun W => lives15_any W)
  by_cases hs : 200 < s.size
  · have hd : (200 : Int) < (s.size : Int) := by omega
    clear hs
    go_enter Tryd.func6, Tryd.ntmps6
    go_wp2_with (go_at_call 7; refine (HLV.out _).mono ?_; rintro e w' ⟨rfl, hbel⟩; have HB := Lib.hid hbel; clear hbel)
    go_ret
    exact ⟨rfl, HB.out⟩
  by_cases ht : 200 < t.size
  · have hd : (200 : Int) < (t.size : Int) := by omega
    have hd0 : ¬ (200 : Int) < (s.size : Int) := by omega
    clear hs ht
    go_enter Tryd.func6, Tryd.ntmps6
    go_wp2_with (go_at_call 7; refine (HLV.out _).mono ?_; rintro e w' ⟨rfl, hbel⟩; have HB := Lib.hid hbel; clear hbel)
    go_ret
    exact ⟨rfl, HB.out⟩
  have hd0 : ¬ (200 : Int) < (s.size : Int) := by omega
  have hd1 : ¬ (200 : Int) < (t.size : Int) := by omega
  have hss : s.size ≤ 200 := by omega
  have hts : t.size ≤ 200 := by omega
  have HRS := Lib.hid (fun W => rightM_any s W (by unfold maxLen; omega))
  have HRT := Lib.hid (fun W => rightM_any t W (by unfold maxLen; omega))
  have HPS := Lib.hid (fun W => partsM_any s W (by omega))
  have HFS := Lib.hid (fun W => folderM_any s W (by omega))
  clear hs ht
  cases hr : rightB s.data.toList with
  | false =>
    have hp : partsT s = [] := by unfold partsT; rw [hr]; rfl
    have hf : foldT s = [] := by unfold foldT; rw [hr]; rfl
    rw [hr] at HRS HFS
    rw [hf] at HFS
    rw [hp] at HPS
    clear hp hf hr HRT
    go_enter Tryd.func6, Tryd.ntmps6
    go_wp2_with fail
    refine (HRS.out _).mono ?_
    rintro e w1 ⟨rfl, hb⟩
    have HB1 := Lib.hid hb
    clear hb
    go_wp2_with fail
    refine (HPS.out _).mono ?_
    rintro e w2 ⟨A2, c2, rfl, _, hb⟩
    have HB2 := Lib.hid (HB1.out.trans (hb.mono HB1.out.size))
    clear hb
    go_wp2
    go_loopg [8, 9] 0 (fun gk v i wr => gk = 0 ∧ i = .int .i64 0 ∧ v = .string ⟨#[]⟩ ∧ wr = w2)
    case atStart => exact ⟨rfl, rfl, rfl, rfl⟩
    case round =>
      obtain ⟨rfl, rfl, rfl, rfl⟩ := hrel
      go_wp2_with fail
      refine (HFS.out _).mono ?_
      rintro e w3 ⟨rfl, hb⟩
      have HB3 := Lib.hid (HB2.out.trans (hb.mono HB2.out.size))
      clear hb
      go_wp2_with fail
      refine (HRS.out _).mono ?_
      rintro e w4 ⟨rfl, hb⟩
      have HB4 := Lib.hid (HB3.out.trans (hb.mono HB3.out.size))
      clear hb
      go_wp2_with (go_at_call 7; refine (HLV.out _).mono ?_; rintro e w7 ⟨rfl, hb7⟩; have HB7 := Lib.hid (HB4.out.trans (hb7.mono HB4.out.size)); clear hb7)
      go_ret
      exact ⟨rfl, HB7.out⟩
  | true =>
    have hp : partsT s = partsS s.data.toList := by unfold partsT; rw [hr]; rfl
    have hf : foldT s = folderL s.data.toList := by unfold foldT; rw [hr]; rfl
    have HIF := Lib.hid (fun W => memIn_any ⟨(folderL s.data.toList).toArray⟩ s W (by
      have h1 := jn_take_len (partsS s.data.toList) ((partsS s.data.toList).length - 1)
      rw [← List.dropLast_eq_take, jn_parts, show s.data.toList.length = s.size from rfl] at h1
      rw [txt_size]
      exact Nat.le_trans h1 (by omega)) (by unfold maxLen; omega))
    have HIN := Lib.hid (fun W => memIn_any ⟨#[]⟩ s W (by decide) (by unfold maxLen; omega))
    have HIS := Lib.hid (fun W => memIn_any s s W (by omega) (by unfold maxLen; omega))
    have hs0 : ¬ s.size = 0 := fun e => by have := (right_len hr).1; rw [show s.data.toList.length = s.size from rfl, e] at this; omega
    rw [in_folder hr] at HIF
    rw [in_nil hr] at HIN
    rw [in_longer (Nat.le_refl _) hs0] at HIS
    rw [hr] at HRS HFS
    rw [hf] at HFS
    rw [hp] at HPS
    have HPX : Hid (∀ x ∈ partsS s.data.toList, ∀ W, Calls Tryd.prog 11 #[.string ⟨x.toArray⟩] W fun e w' => e = .returned (.bool true) ∧ Below W.heap.size W w') := fun x hx W => by
      have hxr := part_right hr hx
      have hxl := (right_len hxr.1).2.1
      have h1 := rightM_any ⟨x.toArray⟩ W (by rw [txt_size]; unfold maxLen; omega)
      rw [show rightB (⟨x.toArray⟩ : ByteArray).data.toList = true from hxr.1] at h1
      exact h1
    have HPY : Hid (∀ x ∈ partsS s.data.toList, ∀ W, Calls Tryd.prog 9 #[.string ⟨x.toArray⟩] W fun e w' => ∃ A c, e = .returned (.slice A 1 c) ∧ Below W.heap.size W w') := fun x hx W => by
      have hxr := part_right hr hx
      have hxl := (right_len hxr.1).2.1
      have h1 := partsM_any ⟨x.toArray⟩ W (by rw [txt_size]; omega)
      rw [show partsT ⟨x.toArray⟩ = [x] from by unfold partsT; rw [if_pos (show rightB (⟨x.toArray⟩ : ByteArray).data.toList = true from hxr.1)]; exact hxr.2] at h1
      exact h1.mono fun _ _ ⟨A, c, h2, _, h3⟩ => ⟨A, c, h2, h3⟩
    have hpl := parts_len_le s
    have hjp := jn_parts s.data.toList
    have HJL : Hid ((jn (partsS s.data.toList)).length ≤ 200) := by show _ ≤ _; rw [hjp, show s.data.toList.length = s.size from rfl]; exact hss
    have HR0 := Lib.hid hr
    obtain ⟨ps, hps⟩ : ∃ ps, partsS s.data.toList = ps := ⟨_, rfl⟩
    rw [hps] at HPS HPX HPY hpl HJL hjp
    have HJP := Lib.hid hjp
    obtain ⟨n, hn⟩ : ∃ n, ps.length = n := ⟨_, rfl⟩
    have HN := Lib.hid hn
    rw [hn] at HPS hpl
    obtain ⟨fl, hfl⟩ : ∃ fl : ByteArray, (⟨(folderL s.data.toList).toArray⟩ : ByteArray) = fl := ⟨_, rfl⟩
    rw [hfl] at HFS HIF
    clear hp hf hs0 hps hjp hn hfl
    cases hrt : rightB t.data.toList with
    | false =>
      rw [hrt] at HRT
      clear hrt hr
      go_enter Tryd.func6, Tryd.ntmps6
      go_wp2_with fail
      refine (HRS.out _).mono ?_
      rintro e w1 ⟨rfl, hb⟩
      have HB1 := Lib.hid hb
      clear hb
      go_wp2_with fail
      refine (HRT.out _).mono ?_
      rintro e wz ⟨rfl, hb⟩
      have HBZ := Lib.hid (HB1.out.trans (hb.mono HB1.out.size))
      clear hb
      go_wp2_with fail
      refine (HPS.out _).mono ?_
      rintro e w2 ⟨A2, c2, rfl, ho, hb⟩
      have HB2 := Lib.hid (HBZ.out.trans (hb.mono HBZ.out.size))
      have HC2 := Lib.hid (textCells_own ho)
      clear hb ho
      go_wp2
      go_loopg [8, 9] n (fun gk v i wr => ∃ (k : Nat) (sv : ByteArray), k + gk = n ∧ i = .int .i64 (k : Int) ∧ v = .string sv ∧ sv.data.toList = jn (ps.take k) ∧ Below w2.heap.size w2 wr)
      case atStart => exact ⟨0, ⟨#[]⟩, by omega, rfl, rfl, rfl, Below.refl _ _⟩
      case round =>
        obtain ⟨k, sv, hk, rfl, rfl, hsv, hbel⟩ := hrel
        have HSV := Lib.hid hsv
        have HBL := Lib.hid hbel
        clear hsv hbel
        by_cases h : k < n
        · obtain ⟨x, hx⟩ : ∃ x, ps[k]? = some x := ⟨_, List.getElem?_eq_getElem (by have := HN.out; omega)⟩
          obtain ⟨b, o, rfl, hbB, hc⟩ := HC2.out (by rw [text_len]; have := HN.out; omega)
          have HCX : Hid (∀ W, Below w2.heap.size w2 W → W.cell? ⟨b, o + k, none⟩ = some (.string ⟨x.toArray⟩)) := fun W hW => (hW.cell (p := ⟨b, o + k, none⟩) hbB).trans (hc k _ (textCells_get hx))
          have hki : (k : Int) < (n : Int) := by omega
          have hw1 : IntKind.i64.wrap ((k : Int) + 1) = (k : Int) + 1 := IntWalk.i64_in _ (by omega)
          have HTK := Lib.hid (takeT_snoc hx)
          have hxm := List.mem_of_getElem? hx
          have HRX := Lib.hid (HPX.out x hxm)
          have HRY := Lib.hid (HPY.out x hxm)
          have hxl := jn_mem_len ps x hxm
          have hsvl : sv.size ≤ 200 := by
            have h1 := jn_take_len ps k
            rw [← HSV.out] at h1
            exact Nat.le_trans h1 HJL.out
          obtain ⟨sx, hsx⟩ : ∃ sx, (⟨x.toArray⟩ : ByteArray) = sx := ⟨_, rfl⟩
          have HSX : Hid (sx.data.toList = x) := by rw [← hsx]; rfl
          have hsxl : sx.size ≤ 200 := by
            have h2 := HJL.out
            rw [← hsx, txt_size]
            omega
          rw [hsx] at HRX HRY HCX
          have c0 := HCX.out _ HBL.out
          clear hc hx hsx hxm hxl hbB
          go_wp2_with fail
          refine (HRX.out _).mono ?_
          rintro e w3 ⟨rfl, hb⟩
          have HB3 := Lib.hid (HBL.out.trans (hb.mono HBL.out.size))
          have c3 := HCX.out _ HB3.out
          clear hb c0
          go_wp2_with fail
          refine (HRY.out _).mono ?_
          rintro e w4 ⟨A4, c4, rfl, hb⟩
          have HB4 := Lib.hid (HB3.out.trans (hb.mono HB3.out.size))
          have d4 := HCX.out _ HB4.out
          clear hb c3
          by_cases hk0 : k = 0
          · subst hk0
            rw [Nat.add_zero] at d4
            have hz : ¬ ((0 : Int) < ((0 : Nat) : Int)) := by decide
            go_wp2
            go_roundg (gk - 1)
            case measure => omega
            case rel =>
              refine ⟨1, sv ++ sx, by omega, by go_num, rfl, ?_, HB4.out⟩
              rw [HTK.out]
              simp [HSV.out, HSX.out, jn]
          · have hz : (0 : Int) < (k : Int) := by omega
            have hz2 : 0 < k := by omega
            have HNE : Hid (ps.take k ≠ []) := fun e => by have h1 := congrArg List.length e; rw [List.length_take, HN.out] at h1; have h2 : min k n = 0 := h1; omega
            go_wp2
            go_roundg (gk - 1)
            case measure => omega
            case rel =>
              refine ⟨k + 1, sv ++ ⟨#[47]⟩ ++ sx, by omega, by go_num, rfl, ?_, HB4.out⟩
              rw [HTK.out, jn_snoc _ _ HNE.out]
              simp [HSV.out, HSX.out]
        · obtain rfl : k = n := by omega
          have hse : sv = s := by
            have h1 := HSV.out
            rw [List.take_of_length_le (by rw [HN.out]; exact Nat.le_refl _), HJP.out] at h1
            exact ByteArray.ext (Array.toList_inj.1 h1)
          subst hse
          have HBE := Lib.hid (HB2.out.trans (HBL.out.mono HB2.out.size))
          clear h
          go_wp2_with fail
          refine (HFS.out _).mono ?_
          rintro e w3 ⟨rfl, hb⟩
          have HB3 := Lib.hid (HBE.out.trans (hb.mono HBE.out.size))
          clear hb
          go_wp2_with fail
          refine (HRS.out _).mono ?_
          rintro e w4 ⟨rfl, hb⟩
          have HB4 := Lib.hid (HB3.out.trans (hb.mono HB3.out.size))
          clear hb
          go_wp2_with fail
          refine (HIF.out _).mono ?_
          rintro e w5 ⟨rfl, hb⟩
          have HB5 := Lib.hid (HB4.out.trans (hb.mono HB4.out.size))
          clear hb
          go_wp2_with fail
          refine (HIN.out _).mono ?_
          rintro e w6 ⟨rfl, hb⟩
          have HB6 := Lib.hid (HB5.out.trans (hb.mono HB5.out.size))
          clear hb
          go_wp2_with fail
          refine (HIS.out _).mono ?_
          rintro e w7 ⟨rfl, hb⟩
          have HB7 := Lib.hid (HB6.out.trans (hb.mono HB6.out.size))
          clear hb
          go_wp2_with (go_at_call 7; refine (HLV.out _).mono ?_; rintro e w8 ⟨rfl, hb8⟩; have HB8 := Lib.hid (HB7.out.trans (hb8.mono HB7.out.size)); clear hb8)
          go_ret
          exact ⟨rfl, HB8.out⟩
    | true =>
      rw [hrt] at HRT
      by_cases hsm : s.size + t.size < 64
      · have hsum : (s.size : Int) + (t.size : Int) < 64 := by omega
        have hw0 : IntKind.i64.wrap ((s.size : Int) + (t.size : Int)) = (s.size : Int) + (t.size : Int) := IntWalk.i64_in _ (by omega)
        have hst : (s ++ ⟨#[47]⟩ ++ t).data.toList = s.data.toList ++ 47 :: t.data.toList := by simp
        have hstl : (s ++ ⟨#[47]⟩ ++ t).size = s.size + 1 + t.size := by
          rw [show (s ++ ⟨#[47]⟩ ++ t).size = (s ++ ⟨#[47]⟩ ++ t).data.toList.length from rfl, hst, List.length_append, List.length_cons, show s.data.toList.length = s.size from rfl, show t.data.toList.length = t.size from rfl]
          omega
        have hrst := right_app hr hrt (by rw [show s.data.toList.length = s.size from rfl, show t.data.toList.length = t.size from rfl]; exact hsm)
        have HF2 := Lib.hid (fun W => folderM_any (s ++ ⟨#[47]⟩ ++ t) W (by omega))
        have HR2 := Lib.hid (fun W => rightM_any (s ++ ⟨#[47]⟩ ++ t) W (by unfold maxLen; omega))
        have HI2 := Lib.hid (fun W => memIn_any s (s ++ ⟨#[47]⟩ ++ t) W (by omega) (by unfold maxLen; omega))
        have HI3 := Lib.hid (fun W => memIn_any (s ++ ⟨#[47]⟩ ++ t) s W (by omega) (by unfold maxLen; omega))
        rw [in_app hr hrst hst] at HI2
        rw [in_longer (by omega) (by omega)] at HI3
        have hfo : foldT (s ++ ⟨#[47]⟩ ++ t) = folderL (s.data.toList ++ 47 :: t.data.toList) := by unfold foldT; rw [hst, hrst]; rfl
        rw [hst, hrst] at HF2 HR2
        rw [hfo] at HF2
        have hfl := folder_app_len s.data.toList t.data.toList
        rw [show s.data.toList.length = s.size from rfl] at hfl
        obtain ⟨f2, hf2⟩ : ∃ f2, folderL (s.data.toList ++ 47 :: t.data.toList) = f2 := ⟨_, rfl⟩
        rw [hf2] at HF2 hfl
        have hfz : ¬ ((f2.length : Int) < (s.size : Int)) := by omega
        clear hst hstl hrst hfo hfl hf2 hrt hr hsm
        go_enter Tryd.func6, Tryd.ntmps6
        go_wp2_with fail
        refine (HRS.out _).mono ?_
        rintro e w1 ⟨rfl, hb⟩
        have HB1 := Lib.hid hb
        clear hb
        go_wp2_with fail
        refine (HRT.out _).mono ?_
        rintro e v1 ⟨rfl, hb⟩
        have HV1 := Lib.hid (HB1.out.trans (hb.mono HB1.out.size))
        clear hb
        go_wp2_with fail
        refine (HF2.out _).mono ?_
        rintro e v2 ⟨rfl, hb⟩
        have HV2 := Lib.hid (HV1.out.trans (hb.mono HV1.out.size))
        clear hb
        go_wp2_with fail
        refine (HR2.out _).mono ?_
        rintro e v3 ⟨rfl, hb⟩
        have HV3 := Lib.hid (HV2.out.trans (hb.mono HV2.out.size))
        clear hb
        go_wp2_with fail
        refine (HI2.out _).mono ?_
        rintro e v4 ⟨rfl, hb⟩
        have HV4 := Lib.hid (HV3.out.trans (hb.mono HV3.out.size))
        clear hb
        go_wp2_with fail
        refine (HI3.out _).mono ?_
        rintro e wz ⟨rfl, hb⟩
        have HBZ := Lib.hid (HV4.out.trans (hb.mono HV4.out.size))
        clear hb hfz hsum hw0
        go_wp2_with fail
        refine (HPS.out _).mono ?_
        rintro e w2 ⟨A2, c2, rfl, ho, hb⟩
        have HB2 := Lib.hid (HBZ.out.trans (hb.mono HBZ.out.size))
        have HC2 := Lib.hid (textCells_own ho)
        clear hb ho
        go_wp2
        go_loopg [8, 9] n (fun gk v i wr => ∃ (k : Nat) (sv : ByteArray), k + gk = n ∧ i = .int .i64 (k : Int) ∧ v = .string sv ∧ sv.data.toList = jn (ps.take k) ∧ Below w2.heap.size w2 wr)
        case atStart => exact ⟨0, ⟨#[]⟩, by omega, rfl, rfl, rfl, Below.refl _ _⟩
        case round =>
          obtain ⟨k, sv, hk, rfl, rfl, hsv, hbel⟩ := hrel
          have HSV := Lib.hid hsv
          have HBL := Lib.hid hbel
          clear hsv hbel
          by_cases h : k < n
          · obtain ⟨x, hx⟩ : ∃ x, ps[k]? = some x := ⟨_, List.getElem?_eq_getElem (by have := HN.out; omega)⟩
            obtain ⟨b, o, rfl, hbB, hc⟩ := HC2.out (by rw [text_len]; have := HN.out; omega)
            have HCX : Hid (∀ W, Below w2.heap.size w2 W → W.cell? ⟨b, o + k, none⟩ = some (.string ⟨x.toArray⟩)) := fun W hW => (hW.cell (p := ⟨b, o + k, none⟩) hbB).trans (hc k _ (textCells_get hx))
            have hki : (k : Int) < (n : Int) := by omega
            have hw1 : IntKind.i64.wrap ((k : Int) + 1) = (k : Int) + 1 := IntWalk.i64_in _ (by omega)
            have HTK := Lib.hid (takeT_snoc hx)
            have hxm := List.mem_of_getElem? hx
            have HRX := Lib.hid (HPX.out x hxm)
            have HRY := Lib.hid (HPY.out x hxm)
            have hxl := jn_mem_len ps x hxm
            have hsvl : sv.size ≤ 200 := by
              have h1 := jn_take_len ps k
              rw [← HSV.out] at h1
              exact Nat.le_trans h1 HJL.out
            obtain ⟨sx, hsx⟩ : ∃ sx, (⟨x.toArray⟩ : ByteArray) = sx := ⟨_, rfl⟩
            have HSX : Hid (sx.data.toList = x) := by rw [← hsx]; rfl
            have hsxl : sx.size ≤ 200 := by
              have h2 := HJL.out
              rw [← hsx, txt_size]
              omega
            rw [hsx] at HRX HRY HCX
            have c0 := HCX.out _ HBL.out
            clear hc hx hsx hxm hxl hbB
            go_wp2_with fail
            refine (HRX.out _).mono ?_
            rintro e w3 ⟨rfl, hb⟩
            have HB3 := Lib.hid (HBL.out.trans (hb.mono HBL.out.size))
            have c3 := HCX.out _ HB3.out
            clear hb c0
            go_wp2_with fail
            refine (HRY.out _).mono ?_
            rintro e w4 ⟨A4, c4, rfl, hb⟩
            have HB4 := Lib.hid (HB3.out.trans (hb.mono HB3.out.size))
            have d4 := HCX.out _ HB4.out
            clear hb c3
            by_cases hk0 : k = 0
            · subst hk0
              rw [Nat.add_zero] at d4
              have hz : ¬ ((0 : Int) < ((0 : Nat) : Int)) := by decide
              go_wp2
              go_roundg (gk - 1)
              case measure => omega
              case rel =>
                refine ⟨1, sv ++ sx, by omega, by go_num, rfl, ?_, HB4.out⟩
                rw [HTK.out]
                simp [HSV.out, HSX.out, jn]
            · have hz : (0 : Int) < (k : Int) := by omega
              have hz2 : 0 < k := by omega
              have HNE : Hid (ps.take k ≠ []) := fun e => by have h1 := congrArg List.length e; rw [List.length_take, HN.out] at h1; have h2 : min k n = 0 := h1; omega
              go_wp2
              go_roundg (gk - 1)
              case measure => omega
              case rel =>
                refine ⟨k + 1, sv ++ ⟨#[47]⟩ ++ sx, by omega, by go_num, rfl, ?_, HB4.out⟩
                rw [HTK.out, jn_snoc _ _ HNE.out]
                simp [HSV.out, HSX.out]
          · obtain rfl : k = n := by omega
            have hse : sv = s := by
              have h1 := HSV.out
              rw [List.take_of_length_le (by rw [HN.out]; exact Nat.le_refl _), HJP.out] at h1
              exact ByteArray.ext (Array.toList_inj.1 h1)
            subst hse
            have HBE := Lib.hid (HB2.out.trans (HBL.out.mono HB2.out.size))
            clear h
            go_wp2_with fail
            refine (HFS.out _).mono ?_
            rintro e w3 ⟨rfl, hb⟩
            have HB3 := Lib.hid (HBE.out.trans (hb.mono HBE.out.size))
            clear hb
            go_wp2_with fail
            refine (HRS.out _).mono ?_
            rintro e w4 ⟨rfl, hb⟩
            have HB4 := Lib.hid (HB3.out.trans (hb.mono HB3.out.size))
            clear hb
            go_wp2_with fail
            refine (HIF.out _).mono ?_
            rintro e w5 ⟨rfl, hb⟩
            have HB5 := Lib.hid (HB4.out.trans (hb.mono HB4.out.size))
            clear hb
            go_wp2_with fail
            refine (HIN.out _).mono ?_
            rintro e w6 ⟨rfl, hb⟩
            have HB6 := Lib.hid (HB5.out.trans (hb.mono HB5.out.size))
            clear hb
            go_wp2_with fail
            refine (HIS.out _).mono ?_
            rintro e w7 ⟨rfl, hb⟩
            have HB7 := Lib.hid (HB6.out.trans (hb.mono HB6.out.size))
            clear hb
            go_wp2_with (go_at_call 7; refine (HLV.out _).mono ?_; rintro e w8 ⟨rfl, hb8⟩; have HB8 := Lib.hid (HB7.out.trans (hb8.mono HB7.out.size)); clear hb8)
            go_ret
            exact ⟨rfl, HB8.out⟩
      · have hsum : ¬ (s.size : Int) + (t.size : Int) < 64 := by omega
        have hw0 : IntKind.i64.wrap ((s.size : Int) + (t.size : Int)) = (s.size : Int) + (t.size : Int) := IntWalk.i64_in _ (by omega)
        clear hrt hr hsm
        go_enter Tryd.func6, Tryd.ntmps6
        go_wp2_with fail
        refine (HRS.out _).mono ?_
        rintro e w1 ⟨rfl, hb⟩
        have HB1 := Lib.hid hb
        clear hb
        go_wp2_with fail
        refine (HRT.out _).mono ?_
        rintro e wz ⟨rfl, hb⟩
        have HBZ := Lib.hid (HB1.out.trans (hb.mono HB1.out.size))
        clear hb
        go_wp2_with fail
        refine (HPS.out _).mono ?_
        rintro e w2 ⟨A2, c2, rfl, ho, hb⟩
        have HB2 := Lib.hid (HBZ.out.trans (hb.mono HBZ.out.size))
        have HC2 := Lib.hid (textCells_own ho)
        clear hb ho
        go_wp2
        go_loopg [8, 9] n (fun gk v i wr => ∃ (k : Nat) (sv : ByteArray), k + gk = n ∧ i = .int .i64 (k : Int) ∧ v = .string sv ∧ sv.data.toList = jn (ps.take k) ∧ Below w2.heap.size w2 wr)
        case atStart => exact ⟨0, ⟨#[]⟩, by omega, rfl, rfl, rfl, Below.refl _ _⟩
        case round =>
          obtain ⟨k, sv, hk, rfl, rfl, hsv, hbel⟩ := hrel
          have HSV := Lib.hid hsv
          have HBL := Lib.hid hbel
          clear hsv hbel
          by_cases h : k < n
          · obtain ⟨x, hx⟩ : ∃ x, ps[k]? = some x := ⟨_, List.getElem?_eq_getElem (by have := HN.out; omega)⟩
            obtain ⟨b, o, rfl, hbB, hc⟩ := HC2.out (by rw [text_len]; have := HN.out; omega)
            have HCX : Hid (∀ W, Below w2.heap.size w2 W → W.cell? ⟨b, o + k, none⟩ = some (.string ⟨x.toArray⟩)) := fun W hW => (hW.cell (p := ⟨b, o + k, none⟩) hbB).trans (hc k _ (textCells_get hx))
            have hki : (k : Int) < (n : Int) := by omega
            have hw1 : IntKind.i64.wrap ((k : Int) + 1) = (k : Int) + 1 := IntWalk.i64_in _ (by omega)
            have HTK := Lib.hid (takeT_snoc hx)
            have hxm := List.mem_of_getElem? hx
            have HRX := Lib.hid (HPX.out x hxm)
            have HRY := Lib.hid (HPY.out x hxm)
            have hxl := jn_mem_len ps x hxm
            have hsvl : sv.size ≤ 200 := by
              have h1 := jn_take_len ps k
              rw [← HSV.out] at h1
              exact Nat.le_trans h1 HJL.out
            obtain ⟨sx, hsx⟩ : ∃ sx, (⟨x.toArray⟩ : ByteArray) = sx := ⟨_, rfl⟩
            have HSX : Hid (sx.data.toList = x) := by rw [← hsx]; rfl
            have hsxl : sx.size ≤ 200 := by
              have h2 := HJL.out
              rw [← hsx, txt_size]
              omega
            rw [hsx] at HRX HRY HCX
            have c0 := HCX.out _ HBL.out
            clear hc hx hsx hxm hxl hbB
            go_wp2_with fail
            refine (HRX.out _).mono ?_
            rintro e w3 ⟨rfl, hb⟩
            have HB3 := Lib.hid (HBL.out.trans (hb.mono HBL.out.size))
            have c3 := HCX.out _ HB3.out
            clear hb c0
            go_wp2_with fail
            refine (HRY.out _).mono ?_
            rintro e w4 ⟨A4, c4, rfl, hb⟩
            have HB4 := Lib.hid (HB3.out.trans (hb.mono HB3.out.size))
            have d4 := HCX.out _ HB4.out
            clear hb c3
            by_cases hk0 : k = 0
            · subst hk0
              rw [Nat.add_zero] at d4
              have hz : ¬ ((0 : Int) < ((0 : Nat) : Int)) := by decide
              go_wp2
              go_roundg (gk - 1)
              case measure => omega
              case rel =>
                refine ⟨1, sv ++ sx, by omega, by go_num, rfl, ?_, HB4.out⟩
                rw [HTK.out]
                simp [HSV.out, HSX.out, jn]
            · have hz : (0 : Int) < (k : Int) := by omega
              have hz2 : 0 < k := by omega
              have HNE : Hid (ps.take k ≠ []) := fun e => by have h1 := congrArg List.length e; rw [List.length_take, HN.out] at h1; have h2 : min k n = 0 := h1; omega
              go_wp2
              go_roundg (gk - 1)
              case measure => omega
              case rel =>
                refine ⟨k + 1, sv ++ ⟨#[47]⟩ ++ sx, by omega, by go_num, rfl, ?_, HB4.out⟩
                rw [HTK.out, jn_snoc _ _ HNE.out]
                simp [HSV.out, HSX.out]
          · obtain rfl : k = n := by omega
            have hse : sv = s := by
              have h1 := HSV.out
              rw [List.take_of_length_le (by rw [HN.out]; exact Nat.le_refl _), HJP.out] at h1
              exact ByteArray.ext (Array.toList_inj.1 h1)
            subst hse
            have HBE := Lib.hid (HB2.out.trans (HBL.out.mono HB2.out.size))
            clear h
            go_wp2_with fail
            refine (HFS.out _).mono ?_
            rintro e w3 ⟨rfl, hb⟩
            have HB3 := Lib.hid (HBE.out.trans (hb.mono HBE.out.size))
            clear hb
            go_wp2_with fail
            refine (HRS.out _).mono ?_
            rintro e w4 ⟨rfl, hb⟩
            have HB4 := Lib.hid (HB3.out.trans (hb.mono HB3.out.size))
            clear hb
            go_wp2_with fail
            refine (HIF.out _).mono ?_
            rintro e w5 ⟨rfl, hb⟩
            have HB5 := Lib.hid (HB4.out.trans (hb.mono HB4.out.size))
            clear hb
            go_wp2_with fail
            refine (HIN.out _).mono ?_
            rintro e w6 ⟨rfl, hb⟩
            have HB6 := Lib.hid (HB5.out.trans (hb.mono HB5.out.size))
            clear hb
            go_wp2_with fail
            refine (HIS.out _).mono ?_
            rintro e w7 ⟨rfl, hb⟩
            have HB7 := Lib.hid (HB6.out.trans (hb.mono HB6.out.size))
            clear hb
            go_wp2_with (go_at_call 7; refine (HLV.out _).mono ?_; rintro e w8 ⟨rfl, hb8⟩; have HB8 := Lib.hid (HB7.out.trans (hb8.mono HB7.out.size)); clear hb8)
            go_ret
            exact ⟨rfl, HB8.out⟩
end Go.Proofs.YtmcblagpindncaaDoor
