/- Layer 15: MemberRights walked. -/
import Derived.Test.YtmcblagpindncaaDoorMbPt
namespace Go.Proofs.YtmcblagpindncaaDoor
open Go.RowKit

theorem ba_ext {a : ByteArray} {l : List UInt8} (h : a.data.toList = l) : a = ⟨l.toArray⟩ := by
  subst h
  cases a
  simp
theorem jn_take_len : ∀ (ps : List (List UInt8)) (k : Nat), (jn (ps.take k)).length ≤ (jn ps).length
  | [], k => by simp [jn]
  | p :: ps, 0 => by simp [jn]
  | p :: ps, k + 1 => by
    rw [List.take_succ_cons]
    have ih := jn_take_len ps k
    by_cases h : ps = []
    · subst h; simp
    · rw [jn_cons p h, List.length_append, List.length_cons]
      by_cases h2 : ps.take k = []
      · rw [h2]; show p.length ≤ _; omega
      · rw [jn_cons p h2, List.length_append, List.length_cons]; omega
theorem jn_mem_len : ∀ (ps : List (List UInt8)) (x : List UInt8), x ∈ ps → x.length ≤ (jn ps).length
  | p :: ps, x, hx => by
    by_cases h : ps = []
    · subst h
      simp at hx
      subst hx
      exact Nat.le_refl _
    · rw [jn_cons p h, List.length_append, List.length_cons]
      rcases List.mem_cons.1 hx with rfl | hx
      · omega
      · have := jn_mem_len ps x hx; omega
set_option maxRecDepth 100000 in
set_option maxHeartbeats 4000000 in
theorem memberrights_any (s : ByteArray) (w : World) :
    Calls Tryd.prog 3 #[.string s] w fun e w' => e = .returned (.bool true) ∧ Below w.heap.size w w' := by
  have HLV := Lib.hid (fun W => lives15_any W)
  by_cases hs : 200 < s.size
  · have hd : (200 : Int) < (s.size : Int) := by omega
    clear hs
    go_enter Tryd.func3, Tryd.ntmps3
    go_wp2_with (go_at_call 7; refine (HLV.out _).mono ?_; rintro e w' ⟨rfl, hbel⟩; have HB := Lib.hid hbel; clear hbel)
    go_ret
    exact ⟨rfl, HB.out⟩
  · have hd : ¬ (200 : Int) < (s.size : Int) := by omega
    have hsz : s.size ≤ 1000 := by omega
    have hsm : s.size ≤ maxLen := by unfold maxLen; omega
    clear hs
    have HRF := Lib.hid (fun W => refRight_any s W hsm)
    have HRM := Lib.hid (fun W => rightM_any s W hsm)
    have HPM := Lib.hid (fun W => partsM_any s W hsz)
    have HFM := Lib.hid (fun W => folderM_any s W hsz)
    have HRP := Lib.hid (fun W => refParts_any s W hsz)
    cases hr : rightB s.data.toList with
    | false =>
      have hp : partsT s = [] := by unfold partsT; rw [hr]; rfl
      have hf : foldT s = [] := by unfold foldT; rw [hr]; rfl
      rw [hr] at HRF HRM HFM
      rw [hf] at HFM
      rw [hp] at HPM
      clear hp hf hr hsz hsm HRP
      go_enter Tryd.func3, Tryd.ntmps3
      go_wp2_with (first
        | (go_at_call 8; refine (HRF.out _).mono ?_; rintro e w1 ⟨rfl, hb⟩; have HB1 := Lib.hid hb; clear hb)
        | (go_at_call 9; refine (HPM.out _).mono ?_; rintro e w2 ⟨A2, c2, rfl, _, hb⟩; have HB2 := Lib.hid (HB1.out.trans (hb.mono HB1.out.size)); clear hb)
        | (go_at_call 10; refine (HFM.out _).mono ?_; rintro e w3 ⟨rfl, hb⟩; have HB3 := Lib.hid (HB2.out.trans (hb.mono HB2.out.size)); clear hb)
        | (go_at_call 11; refine (HRM.out _).mono ?_; rintro e w4 ⟨rfl, hb⟩; have HB4 := Lib.hid (HB3.out.trans (hb.mono HB3.out.size)); clear hb)
        | (go_at_call 7; refine (HLV.out _).mono ?_; rintro e w5 ⟨rfl, hb⟩; have HB5 := Lib.hid (HB4.out.trans (hb.mono HB4.out.size)); clear hb))
      go_ret
      exact ⟨rfl, HB5.out⟩
    | true =>
      have hp : partsT s = partsS s.data.toList := by unfold partsT; rw [hr]; rfl
      have hf : foldT s = folderL s.data.toList := by unfold foldT; rw [hr]; rfl
      rw [hr] at HRF HRM HFM
      rw [hf] at HFM
      rw [hp] at HPM
      have hne := partsL_ne s.data.toList
      have hpl := partsL_length s.data.toList
      rw [show s.data.toList.length = s.size from rfl] at hpl
      have hjl : (jn (partsS s.data.toList)).length ≤ 200 := by rw [jn_parts, show s.data.toList.length = s.size from rfl]; omega
      have hfo : folderL s.data.toList = jn (partsS s.data.toList).dropLast := rfl
      rw [hfo] at HFM
      obtain ⟨ps, hps⟩ : ∃ ps, partsS s.data.toList = ps := ⟨_, rfl⟩
      rw [hps] at HPM HFM HRP hne hpl hjl
      have HJL := Lib.hid hjl
      obtain ⟨m, hm⟩ : ∃ m, ps.length = m + 1 := ⟨ps.length - 1, by have := List.length_pos_iff.2 hne; omega⟩
      have HM := Lib.hid hm
      have HDL : Hid (ps.dropLast = ps.take m) := by show _ = _; rw [List.dropLast_eq_take, hm]; rfl
      rw [hm] at HPM HRP hpl
      clear hp hf hr hsz hsm hfo hps hne hm hjl
      go_enter Tryd.func3, Tryd.ntmps3
      have hwm : IntKind.i64.wrap (m : Int) = (m : Int) := IntWalk.i64_in _ (by omega)
      go_wp2_with (first
        | (go_at_call 8; refine (HRF.out _).mono ?_; rintro e w1 ⟨rfl, hb⟩; have HB1 := Lib.hid hb; clear hb)
        | (go_at_call 9; refine (HPM.out _).mono ?_; rintro e w2 ⟨A2, c2, rfl, ho, hb⟩; have HO2 := Lib.hid (textCells_own ho); have HB2 := Lib.hid (HB1.out.trans (hb.mono HB1.out.size)); clear hb ho)
        | (go_at_call 10; refine (HFM.out _).mono ?_; rintro e w3 ⟨rfl, hb⟩; have HO3 := Lib.hid ((HO2.out.below hb (Nat.le_refl _)).more hb.size); have HB3 := Lib.hid (HB2.out.trans (hb.mono HB2.out.size)); clear hb)
        | (go_at_call 11; refine (HRM.out _).mono ?_; rintro e w4 ⟨rfl, hb⟩; have HO4 := Lib.hid ((HO3.out.below hb (Nat.le_refl _)).more hb.size); have HB4 := Lib.hid (HB3.out.trans (hb.mono HB3.out.size)); clear hb)
        | (go_at_call 12; refine (HRP.out _).mono ?_; rintro e w5 ⟨A5, c5, rfl, ho, hb⟩; have HC5 := Lib.hid ho.cells; have HO5 := Lib.hid ((HO4.out.below hb (Nat.le_refl _)).more hb.size); have HB5 := Lib.hid (HB4.out.trans (hb.mono HB4.out.size)); clear hb ho))
      go_loopg [8, 9] m (fun gk v i wr => ∃ (k : Nat) (sv : ByteArray), k + gk = m ∧ i = .int .i64 (k : Int) ∧ v = .string sv ∧ sv.data.toList = jn (ps.take k) ∧ wr = w5)
      case atStart => exact ⟨0, ⟨#[]⟩, by omega, rfl, rfl, rfl, rfl⟩
      case round =>
        obtain ⟨k, sv, hk, rfl, rfl, hsv, rfl⟩ := hrel
        have HSV := Lib.hid hsv
        clear hsv
        by_cases h : k < m
        · obtain ⟨x, hx⟩ : ∃ x, ps[k]? = some x := ⟨_, List.getElem?_eq_getElem (by have := HM.out; omega)⟩
          obtain ⟨b, o, rfl, _, hc⟩ := HC5.out (by rw [text_len]; have := HM.out; omega)
          have c0 := hc k _ (textCells_get hx)
          have hki : (k : Int) < (m : Int) := by omega
          have hki2 : (k : Int) < (m : Int) + 1 := by omega
          have hw1 : IntKind.i64.wrap ((k : Int) + 1) = (k : Int) + 1 := IntWalk.i64_in _ (by omega)
          have HTK := Lib.hid (takeT_snoc hx)
          obtain ⟨sx, hsx⟩ : ∃ sx, (⟨x.toArray⟩ : ByteArray) = sx := ⟨_, rfl⟩
          have HSX : Hid (sx.data.toList = x) := by rw [← hsx]; rfl
          rw [hsx] at c0
          have hsxl : sx.size ≤ 200 := by
            have h1 := jn_mem_len ps x (List.mem_of_getElem? hx)
            have h2 := HJL.out
            rw [← hsx, txt_size]
            omega
          have hsvl : sv.size ≤ 200 := by
            have h1 := jn_take_len ps k
            rw [← HSV.out] at h1
            exact Nat.le_trans h1 HJL.out
          clear hc hx hsx
          by_cases hk0 : k = 0
          · subst hk0
            rw [Nat.add_zero] at c0
            have hz : ¬ ((0 : Int) < ((0 : Nat) : Int)) := by decide
            go_wp2
            go_roundg (gk - 1)
            case measure => omega
            case rel =>
              refine ⟨1, sv ++ sx, by omega, by go_num, rfl, ?_, rfl⟩
              rw [HTK.out]
              simp [HSV.out, HSX.out, jn]
          · have hz : (0 : Int) < (k : Int) := by omega
            have hz2 : 0 < k := by omega
            have HNE : Hid (ps.take k ≠ []) := fun e => by have h1 := congrArg List.length e; rw [List.length_take, HM.out] at h1; have h2 : min k (m + 1) = 0 := h1; omega
            go_wp2
            go_roundg (gk - 1)
            case measure => omega
            case rel =>
              refine ⟨k + 1, sv ++ ⟨#[47]⟩ ++ sx, by omega, by go_num, rfl, ?_, rfl⟩
              rw [HTK.out, jn_snoc _ _ HNE.out]
              simp [HSV.out, HSX.out]
        · obtain rfl : k = m := by omega
          have hse : sv = ⟨(jn (ps.take k)).toArray⟩ := ba_ext HSV.out
          rw [← HDL.out] at hse
          subst hse
          have HSM := Lib.hid (sameT_any A2 (k + 1) c2 A5 c5 ps wr.heap.size wr HM.out (by omega) HO5.out HC5.out)
          clear h
          go_wp2_with fail
          refine HSM.out.mono ?_
          rintro e w6 ⟨rfl, m6, hw6⟩
          have HB6 : Hid (Below w.heap.size w w6) := by show Below _ _ _; rw [← hw6]; exact Below.drewN HB5.out _
          clear hw6
          go_wp2_with (go_at_call 7; refine (HLV.out _).mono ?_; rintro e w7 ⟨rfl, hb7⟩; have HB7 := Lib.hid (HB6.out.trans (hb7.mono HB6.out.size)); clear hb7)
          go_ret
          exact ⟨rfl, HB7.out⟩
end Go.Proofs.YtmcblagpindncaaDoor
