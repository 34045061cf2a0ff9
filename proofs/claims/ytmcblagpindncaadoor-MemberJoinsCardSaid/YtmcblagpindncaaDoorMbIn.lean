/- Layer 15: whether a folder has a name: both answers. -/
import Derived.Test.YtmcblagpindncaaDoorMemR
import Derived.Test.YtmcblagpindncaaDoorRef15
import Derived.Test.YtmcblagpindncaaDoorNmP
namespace Go.Proofs.YtmcblagpindncaaDoor
open Go.RowKit

/-- Has a folder a name? -/
def inF (f s : ByteArray) : Bool := rightB s.data.toList && (decide (f.size = 0) || (rightB f.data.toList && (f.data.toList ++ [47]).isPrefixOf s.data.toList))
theorem take_prefix {p s : List UInt8} : (s.take p.length == p) = p.isPrefixOf s ∨ s.length < p.length := by
  by_cases h : s.length < p.length
  · exact .inr h
  · left
    rw [Bool.eq_iff_iff, beq_iff_eq, List.isPrefixOf_iff_prefix]
    constructor
    · intro e; exact ⟨s.drop p.length, by conv => rhs; rw [← List.take_append_drop p.length s, e]⟩
    · rintro ⟨t, rfl⟩; exact List.take_left
theorem not_prefix {p s : List UInt8} (h : s.length < p.length) : p.isPrefixOf s = false := by
  rw [← Bool.not_eq_true, List.isPrefixOf_iff_prefix]
  intro hp
  have := hp.length_le
  omega
theorem ext_toList (s : ByteArray) (n : Nat) : (s.extract 0 n).toList = s.data.toList.take n := by
  rw [ByteArray.toList_eq, extract_part]
  simp
theorem size_toL (s : ByteArray) : s.data.toList.length = s.size := by rw [Array.length_toList]; rfl
set_option maxHeartbeats 1000000 in
theorem hasPrefix_any (s p : ByteArray) (w : World) :
    Calls Tryd.prog 25 #[.string s, .string p] w fun e w' => e = .returned (.bool (p.data.toList.isPrefixOf s.data.toList)) ∧ w = w' := by
  obtain ⟨bb, hbb⟩ : ∃ bb, p.data.toList.isPrefixOf s.data.toList = bb := ⟨_, rfl⟩
  rw [hbb]
  have HBB := Lib.hid hbb
  clear hbb
  by_cases h : p.size ≤ s.size
  · have HE : Hid (((s.extract 0 p.size).toList == p.toList) = bb) := by
      show _ = _
      rw [← HBB.out, ext_toList, ByteArray.toList_eq, ← size_toL p]
      rcases take_prefix (p := p.data.toList) (s := s.data.toList) with h1 | h1
      · exact h1
      · rw [size_toL, size_toL] at h1; omega
    have hd : (p.size : Int) ≤ (s.size : Int) := by omega
    go_enter Tryd.func25, Tryd.ntmps25
    go_wp2
    go_ret
    exact ⟨by rw [← HE.out]; rfl, rfl⟩
  · have HE : Hid (bb = false) := HBB.out.symm.trans (not_prefix (by rw [size_toL, size_toL]; omega))
    have hd : ¬ (p.size : Int) ≤ (s.size : Int) := by omega
    go_enter Tryd.func25, Tryd.ntmps25
    go_wp2
    go_ret
    exact ⟨by rw [HE.out]; rfl, rfl⟩

theorem nil_size {f : ByteArray} (h : f.size = 0) : f = ⟨#[]⟩ := by
  apply ByteArray.ext
  exact Array.eq_empty_of_size_eq_zero h
theorem not_nil {f : ByteArray} (h : ¬ f.size = 0) : ¬ f.toList = [] := by
  rw [ByteArray.toList_eq]
  exact fun e => h (by rw [← size_toL, e]; rfl)
set_option maxHeartbeats 2000000 in
theorem memIn_any (f s : ByteArray) (w : World) (hf : f.size ≤ 1000) (hs : s.size ≤ maxLen) :
    Calls Tryd.prog 16 #[.string f, .string s] w fun e w' => e = .returned (.bool (inF f s)) ∧ Below w.heap.size w w' := by
  have HR := Lib.hid (fun W => rightM_any s W hs)
  have HRF := Lib.hid (fun W => rightM_any f W (by unfold maxLen; omega))
  have HP := Lib.hid (fun W => hasPrefix_any s (f ++ ⟨#[47]⟩) W)
  have hpl : (f ++ (⟨#[47]⟩ : ByteArray)).data.toList = f.data.toList ++ [47] := by simp
  rw [hpl] at HP
  cases h1 : rightB s.data.toList with
  | false =>
    have HE : Hid (inF f s = false) := by show _ = _; unfold inF; rw [h1]; rfl
    rw [h1] at HR
    clear hf hs h1
    go_enter Tryd.func16, Tryd.ntmps16
    go_wp2_with (go_at_call 11; refine (HR.out _).mono ?_; rintro e w1 ⟨rfl, hbel⟩; have HB1 := Lib.hid hbel; clear hbel HR)
    go_ret
    exact ⟨by rw [HE.out]; rfl, HB1.out⟩
  | true =>
    rw [h1] at HR
    by_cases h0 : f.size = 0
    · obtain rfl := nil_size h0
      have HE : Hid (inF ⟨#[]⟩ s = true) := by show _ = _; unfold inF; rw [h1]; rfl
      clear hf hs h1 h0
      go_enter Tryd.func16, Tryd.ntmps16
      go_wp2_with (go_at_call 11; refine (HR.out _).mono ?_; rintro e w1 ⟨rfl, hbel⟩; have HB1 := Lib.hid hbel; clear hbel HR)
      go_ret
      exact ⟨by rw [HE.out]; rfl, HB1.out⟩
    · have hne := not_nil h0
      have hne1 : f.toList.isEmpty = false := by simpa using hne
      have hne2 : (f.toList == ([] : List UInt8)) = false := by simpa using hne
      have HE : Hid (inF f s = (rightB f.data.toList && (f.data.toList ++ [47]).isPrefixOf s.data.toList)) := by show _ = _; unfold inF; rw [h1, decide_eq_false h0]; simp
      have hsz : ((f.size : Int) + 1) ≤ 9223372036854775807 := by omega
      cases h2 : rightB f.data.toList with
      | false =>
        rw [h2] at HRF HE
        clear hs h1 h2
        go_enter Tryd.func16, Tryd.ntmps16
        go_wp2_with (first
          | (go_at_call 11; refine (HR.out _).mono ?_; rintro e w1 ⟨rfl, hbel⟩; have HB1 := Lib.hid hbel; clear hbel HR)
          | (go_at_call 11; refine (HRF.out _).mono ?_; rintro e w2 ⟨rfl, hbel⟩; have HB2 := Lib.hid (HB1.out.trans (hbel.mono HB1.out.size)); clear hbel HRF))
        go_ret
        exact ⟨by rw [HE.out]; rfl, HB2.out⟩
      | true =>
        rw [h2, Bool.true_and] at HE
        rw [h2] at HRF
        clear hs h1 h2
        go_enter Tryd.func16, Tryd.ntmps16
        go_wp2_with (first
          | (go_at_call 11; refine (HR.out _).mono ?_; rintro e w1 ⟨rfl, hbel⟩; have HB1 := Lib.hid hbel; clear hbel HR)
          | (go_at_call 11; refine (HRF.out _).mono ?_; rintro e w2 ⟨rfl, hbel⟩; have HB2 := Lib.hid (HB1.out.trans (hbel.mono HB1.out.size)); clear hbel HRF)
          | (go_at_call 25; refine (HP.out _).mono ?_; rintro e w3 ⟨rfl, rfl⟩; clear HP))
        go_ret
        exact ⟨by rw [HE.out]; rfl, HB2.out⟩

theorem prefix_one {f s : List UInt8} : (f ++ [47]).isPrefixOf s = (decide (f.length < s.length) && ((s.take f.length == f) && (s[f.length]? == some 47))) := by
  rw [Bool.eq_iff_iff, List.isPrefixOf_iff_prefix]
  simp only [Bool.and_eq_true, decide_eq_true_eq, beq_iff_eq]
  constructor
  · rintro ⟨t, rfl⟩
    refine ⟨by simp, ?_, ?_⟩
    · rw [List.append_assoc, List.take_left]
    · rw [List.append_assoc, List.getElem?_append_right (Nat.le_refl _)]; simp
  · rintro ⟨h1, h2, h3⟩
    refine ⟨s.drop (f.length + 1), ?_⟩
    have h4 : s = s.take f.length ++ s.drop f.length := (List.take_append_drop _ _).symm
    have h5 : s.drop f.length = 47 :: s.drop (f.length + 1) := by
      have h6 := (List.getElem?_eq_some_iff.1 h3).2
      rw [← List.getElem_cons_drop h1, h6]
    conv => rhs; rw [h4, h5, h2]
    simp
set_option maxHeartbeats 4000000 in
theorem refIn_any (f s : ByteArray) (w : World) (hf : f.size ≤ 1000) (hs : s.size ≤ maxLen) :
    Calls Tryd.prog 15 #[.string f, .string s] w fun e w' => e = .returned (.bool (inF f s)) ∧ Below w.heap.size w w' := by
  have HR := Lib.hid (fun W => refRight_any s W hs)
  have HRF := Lib.hid (fun W => refRight_any f W (by unfold maxLen; omega))
  cases h1 : rightB s.data.toList with
  | false =>
    have HE : Hid (inF f s = false) := by show _ = _; unfold inF; rw [h1]; rfl
    rw [h1] at HR
    clear hf hs h1
    go_enter Tryd.func15, Tryd.ntmps15
    go_wp2_with (go_at_call 8; refine (HR.out _).mono ?_; rintro e w1 ⟨rfl, hbel⟩; have HB1 := Lib.hid hbel; clear hbel HR)
    go_ret
    exact ⟨by rw [HE.out]; rfl, HB1.out⟩
  | true =>
    rw [h1] at HR
    by_cases h0 : f.size = 0
    · obtain rfl := nil_size h0
      have HE : Hid (inF ⟨#[]⟩ s = true) := by show _ = _; unfold inF; rw [h1]; rfl
      clear hf hs h1 h0
      go_enter Tryd.func15, Tryd.ntmps15
      go_wp2_with (go_at_call 8; refine (HR.out _).mono ?_; rintro e w1 ⟨rfl, hbel⟩; have HB1 := Lib.hid hbel; clear hbel HR)
      go_ret
      exact ⟨by rw [HE.out]; rfl, HB1.out⟩
    · have hne := not_nil h0
      have hne1 : f.toList.isEmpty = false := by simpa using hne
      have hne2 : (f.toList == ([] : List UInt8)) = false := by simpa using hne
      cases h2 : rightB f.data.toList with
      | false =>
        have HE : Hid (inF f s = false) := by show _ = _; unfold inF; rw [h1, h2, decide_eq_false h0]; rfl
        rw [h2] at HRF
        clear hs h1 h2
        go_enter Tryd.func15, Tryd.ntmps15
        go_wp2_with (first
          | (go_at_call 8; refine (HR.out _).mono ?_; rintro e w1 ⟨rfl, hbel⟩; have HB1 := Lib.hid hbel; clear hbel HR)
          | (go_at_call 8; refine (HRF.out _).mono ?_; rintro e w2 ⟨rfl, hbel⟩; have HB2 := Lib.hid (HB1.out.trans (hbel.mono HB1.out.size)); clear hbel HRF))
        go_ret
        exact ⟨by rw [HE.out]; rfl, HB2.out⟩
      | true =>
        have HE : Hid (inF f s = (decide (f.size < s.size) && ((s.data.toList.take f.size == f.data.toList) && (s.data.toList[f.size]? == some 47)))) := by
          show _ = _
          unfold inF
          rw [h1, h2, decide_eq_false h0, prefix_one, size_toL, size_toL]
          rfl
        rw [h2] at HRF
        clear hs h1 h2
        by_cases hl : f.size < s.size
        · have hd : (f.size : Int) < (s.size : Int) := by omega
          obtain ⟨q, hq⟩ : ∃ q, ((s.extract 0 f.size).toList == f.toList) = q := ⟨_, rfl⟩
          have HQ : Hid ((s.data.toList.take f.size == f.data.toList) = q) := by show _ = _; rw [← hq, ext_toList, ByteArray.toList_eq]
          obtain ⟨y, hy⟩ : ∃ y, s.data.toList[f.size]? = some y := ⟨_, List.getElem?_eq_getElem (by rw [size_toL]; omega)⟩
          rw [HQ.out, hy, decide_eq_true hl, Bool.true_and] at HE
          cases q with
          | false =>
            have hq2 : ¬ (s.extract 0 f.size).toList = f.toList := by simpa using hq
            clear hy
            go_enter Tryd.func15, Tryd.ntmps15
            go_wp2_with (first
              | (go_at_call 8; refine (HR.out _).mono ?_; rintro e w1 ⟨rfl, hbel⟩; have HB1 := Lib.hid hbel; clear hbel HR)
              | (go_at_call 8; refine (HRF.out _).mono ?_; rintro e w2 ⟨rfl, hbel⟩; have HB2 := Lib.hid (HB1.out.trans (hbel.mono HB1.out.size)); clear hbel HRF))
            go_ret
            exact ⟨by rw [HE.out]; rfl, HB2.out⟩
          | true =>
            have hq2 : (s.extract 0 f.size).toList = f.toList := by simpa using hq
            go_enter Tryd.func15, Tryd.ntmps15
            go_wp2_with (first
              | (go_at_call 8; refine (HR.out _).mono ?_; rintro e w1 ⟨rfl, hbel⟩; have HB1 := Lib.hid hbel; clear hbel HR)
              | (go_at_call 8; refine (HRF.out _).mono ?_; rintro e w2 ⟨rfl, hbel⟩; have HB2 := Lib.hid (HB1.out.trans (hbel.mono HB1.out.size)); clear hbel HRF))
            go_ret
            refine ⟨?_, HB2.out⟩
            rw [HE.out]
            have hy2 : s[f.size] = y := by
              have h5 := (List.getElem?_eq_some_iff.1 hy).2
              rw [← h5]
              rfl
            show Ending.returned (.bool (((s[f.size]).toNat : Int) == 47)) = _
            rw [hy2]
            have h6 : (((y.toNat : Int) == 47) : Bool) = (true && (some y == some 47)) := by
              rw [Bool.true_and, Bool.eq_iff_iff]
              simp only [beq_iff_eq, Option.some.injEq]
              constructor
              · intro e; apply UInt8.toNat_inj.1; show y.toNat = 47; omega
              · rintro rfl; rfl
            rw [h6]
        · have hd : ¬ (f.size : Int) < (s.size : Int) := by omega
          rw [decide_eq_false hl, Bool.false_and] at HE
          go_enter Tryd.func15, Tryd.ntmps15
          go_wp2_with (first
            | (go_at_call 8; refine (HR.out _).mono ?_; rintro e w1 ⟨rfl, hbel⟩; have HB1 := Lib.hid hbel; clear hbel HR)
            | (go_at_call 8; refine (HRF.out _).mono ?_; rintro e w2 ⟨rfl, hbel⟩; have HB2 := Lib.hid (HB1.out.trans (hbel.mono HB1.out.size)); clear hbel HRF))
          go_ret
          exact ⟨by rw [HE.out]; rfl, HB2.out⟩
end Go.Proofs.YtmcblagpindncaaDoor
