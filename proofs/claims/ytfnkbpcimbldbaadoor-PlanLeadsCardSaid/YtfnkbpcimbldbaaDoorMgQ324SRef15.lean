/- Layer 15's reference: a text's parts, and whether a name may be. -/
import Derived.Test.YtfnkbpcimbldbaaDoorMgQ324SMemR
import Derived.Test.YtfnkbpcimbldbaaDoorMgQ324SKRead
namespace Go.Proofs.YtfnkbpcimbldbaaDoor
open Go.RowKit

theorem parts_first {r : List UInt8} : ∀ {j : Nat}, (∀ x ∈ r.take j, x ≠ 47) → r[j]? = some 47 → partsS r = r.take j :: partsS (r.drop (j + 1)) := by
  induction r with
  | nil => intro j _ h; simp at h
  | cons y r ih =>
    intro j hno hj
    cases j with
    | zero =>
      simp at hj
      subst hj
      simp [partsS]
    | succ j =>
      have hy : y ≠ 47 := hno y (by simp)
      have h2 := ih (j := j) (fun x hx => hno x (by simp [hx])) (by simpa using hj)
      rw [partsS, if_neg hy, h2]
      rfl
theorem parts_no {r : List UInt8} (h : ∀ x ∈ r, x ≠ 47) : partsS r = [r] := by
  induction r with
  | nil => rfl
  | cons y r ih =>
    rw [partsS, if_neg (h y (by simp)), ih (fun x hx => h x (by simp [hx]))]
theorem extract_part (s : ByteArray) (f i : Nat) : s.extract f i = ⟨((s.data.toList.drop f).take (i - f)).toArray⟩ := by
  apply ByteArray.ext
  rw [ByteArray.data_extract]
  apply Array.toList_inj.1
  simp

/-- The cells of texts. -/
def textCells (ps : List (List UInt8)) : List Value := ps.map fun p => Value.string ⟨p.toArray⟩
theorem textCells_snoc (ps : List (List UInt8)) (p : List UInt8) : textCells ps ++ [Value.string ⟨p.toArray⟩] = textCells (ps ++ [p]) := by simp [textCells]
theorem textCells_get {ps : List (List UInt8)} {i : Nat} {p : List UInt8} (h : ps[i]? = some p) : (textCells ps)[i]? = some (.string ⟨p.toArray⟩) := by simp [textCells, h]
theorem textElem : Elem Tryd.prog 40 9 (.string ⟨#[]⟩) 1 16 := Elem.of Tryd.underlying40 (by kernel_rfl) rfl (by omega)

set_option maxRecDepth 100000 in
set_option maxHeartbeats 1000000 in
theorem refParts_any (s : ByteArray) (w : World) (hm : s.size ≤ 1000) :
    Calls Tryd.prog 37 #[.string s] w fun e w' => ∃ A c, e = .returned (.slice A (partsS s.data.toList).length c) ∧ OwnT w' w.heap.size 9 (.slice A (partsS s.data.toList).length c) (partsS s.data.toList).length (textCells (partsS s.data.toList)) ∧ Below w.heap.size w w' := by
  have hln : s.data.toList.length = s.size := by rw [Array.length_toList]; rfl
  have HLN := Lib.hid hln
  clear hln
  go_enter Tryd.func37, Tryd.ntmps37
  go_wp2
  go_loopw [3, 4, 5] (fun out fr i wr => ∃ (k f : Nat) (d : List (List UInt8)), k ≤ s.size ∧ f ≤ k ∧ d.length ≤ f ∧ i = .int .i64 k ∧ fr = .int .i64 f ∧ partsS s.data.toList = d ++ partsS (s.data.toList.drop f) ∧ (∀ x ∈ (s.data.toList.drop f).take (k - f), x ≠ 47) ∧ OwnT wr w.heap.size 9 out d.length (textCells d) ∧ Below w.heap.size w wr) (fun _ _ i _ => s.size - (intOf i).toNat)
  case atStart => exact ⟨0, 0, [], Nat.zero_le _, Nat.le_refl _, Nat.le_refl _, rfl, rfl, rfl, by simp, OwnT.nil _ _ _, Below.refl _ _⟩
  case round =>
    obtain ⟨k, f, d, hk, hf, hdl, rfl, rfl, hx, hno, hown, hbel⟩ := hrel
    have HX := Lib.hid hx
    have HNO := Lib.hid hno
    have HOWN := Lib.hid hown
    have HBEL := Lib.hid hbel
    clear hx hno hown hbel
    obtain ⟨A, c, rfl⟩ := HOWN.out.form
    by_cases hlt : k < s.size
    · have hgk : s.data.toList[k]? = some (s[k]'hlt) := by rw [List.getElem?_eq_getElem (by rw [HLN.out]; exact hlt)]; rfl
      have HGK := Lib.hid hgk
      clear hgk
      by_cases h47 : s[k]'hlt = 47
      · have hd : (((s[k]'hlt).toNat : Int) == 47) = true := by rw [h47]; rfl
        have HE := Lib.hid (extract_part s f k)
        have HP : Hid (partsS (s.data.toList.drop f) = (s.data.toList.drop f).take (k - f) :: partsS (s.data.toList.drop (k + 1))) := by
          have := parts_first (r := s.data.toList.drop f) (j := k - f) HNO.out (by rw [List.getElem?_drop, show f + (k - f) = k by omega, HGK.out, h47])
          rw [List.drop_drop, show f + (k - f + 1) = k + 1 by omega] at this
          exact this
        clear h47
        go_wp2_with (at_builtin; refine wpList_appT1 _ textElem rfl (.tmp 16) (.tmp 21) rfl w.heap.size (.slice A d.length c) d.length _ rfl HOWN.out _ rfl rfl (by simp [Value.oneCell']) (by unfold maxLen; omega) (by omega) HBEL.out.size ?_; intro A2 c2 w2 hA; have HA := Lib.hid hA; clear hA)
        refine ⟨⟨k + 1, k + 1, d ++ [(s.data.toList.drop f).take (k - f)], by omega, by omega, by rw [List.length_append]; simp; omega, by go_num, by go_num, by rw [HX.out, HP.out]; simp, by simp, ?_, HA.out.below HBEL.out HBEL.out.size (fun k hk => (HOWN.out.lt k hk).1)⟩, by simp [intOf]; omega⟩
        have h := HA.out.own
        rw [HE.out] at h
        rw [← textCells_snoc, List.length_append]
        exact h
      · have hd : (((s[k]'hlt).toNat : Int) == 47) = false := by
          have : (s[k]'hlt).toNat ≠ 47 := fun e => h47 (UInt8.toNat_inj.1 (by rw [e]; rfl))
          simp
          omega
        have HN2 : Hid (∀ x ∈ (s.data.toList.drop f).take (k + 1 - f), x ≠ 47) := fun x hx => by
          rw [show k + 1 - f = (k - f) + 1 by omega, List.take_add_one, List.getElem?_drop, show f + (k - f) = k by omega, HGK.out] at hx
          rcases List.mem_append.1 hx with h | h
          · exact HNO.out x h
          · simp at h
            rw [h]
            exact h47
        clear h47
        go_wp2
        exact ⟨⟨k + 1, f, d, by omega, by omega, hdl, by go_num, rfl, HX.out, HN2.out, HOWN.out, HBEL.out⟩, by simp [intOf]; omega⟩
    · obtain rfl : k = s.size := by omega
      have HE := Lib.hid (extract_part s f s.size)
      have HTK : Hid ((s.data.toList.drop f).take (s.size - f) = s.data.toList.drop f) := List.take_of_length_le (by rw [List.length_drop, HLN.out]; exact Nat.le_refl _)
      have HP : Hid (partsS s.data.toList = d ++ [s.data.toList.drop f]) := by
        show _ = _
        rw [HX.out, parts_no]
        rw [← HTK.out]
        exact HNO.out
      have HPL : Hid ((partsS s.data.toList).length = d.length + 1) := by show _ = _; rw [HP.out]; simp
      go_wp2_with (at_builtin; refine wpList_appT1 _ textElem rfl (.tmp 25) (.tmp 29) rfl w.heap.size (.slice A d.length c) d.length _ rfl HOWN.out _ rfl rfl (by simp [Value.oneCell']) (by unfold maxLen; omega) (by omega) HBEL.out.size ?_; intro A2 c2 w2 hA; have HA := Lib.hid hA; clear hA)
      go_ret
      refine ⟨A2, c2, by rw [HPL.out]; rfl, ?_, HA.out.below HBEL.out HBEL.out.size (fun k hk => (HOWN.out.lt k hk).1)⟩
      have h := HA.out.own
      rw [HE.out, HTK.out] at h
      rw [HPL.out, HP.out, ← textCells_snoc]
      exact h

set_option maxRecDepth 100000 in
set_option maxHeartbeats 2000000 in
theorem refRight_any (s : ByteArray) (w : World) (hm : s.size ≤ maxLen) :
    Calls Tryd.prog 23 #[.string s] w fun e w' => e = .returned (.bool (rightB s.data.toList)) ∧ Below w.heap.size w w' := by
  have hln : s.data.toList.length = s.size := by rw [Array.length_toList]; rfl
  unfold maxLen at hm
  by_cases h0 : s.size < 1
  · have HR : Hid (rightB s.data.toList = false) := by
      show _ = _
      rw [List.eq_nil_of_length_eq_zero (by omega : s.data.toList.length = 0)]
      rfl
    have h0' : (s.size : Int) < 1 := by omega
    clear hln
    go_enter Tryd.func23, Tryd.ntmps23
    go_wp2
    go_ret
    exact ⟨by rw [HR.out]; rfl, Below.refl _ _⟩
  by_cases h64 : 64 < s.size
  · have HR := Lib.hid (rightB_long (l := s.data.toList) (by omega))
    have h0' : ¬ (s.size : Int) < 1 := by omega
    have h64' : (64 : Int) < (s.size : Int) := by omega
    clear hln
    go_enter Tryd.func23, Tryd.ntmps23
    go_wp2
    go_ret
    exact ⟨by rw [HR.out]; rfl, Below.refl _ _⟩
  have h0' : ¬ (s.size : Int) < 1 := by omega
  have h64' : ¬ (64 : Int) < (s.size : Int) := by omega
  have HLN := Lib.hid hln
  clear hln
  go_enter Tryd.func23, Tryd.ntmps23
  go_wp2
  go_loop [3] (fun i => ∃ k : Nat, k ≤ s.size ∧ i = .int .i64 k ∧ (s.data.toList.take k).all signB = true) (fun i => s.size - (intOf i).toNat)
  case atStart => exact ⟨0, Nat.zero_le _, rfl, rfl⟩
  case round =>
    obtain ⟨k, hk, rfl, hall⟩ := hrel
    have HALL := Lib.hid hall
    clear hall
    by_cases hlt : k < s.size
    · have hgk : s.data.toList[k]? = some (s[k]'hlt) := by rw [List.getElem?_eq_getElem (by rw [HLN.out]; exact hlt)]; rfl
      have HGK := Lib.hid hgk
      clear hgk
      by_cases hg : signB (s[k]'hlt) = true
      · obtain ⟨g1, g2⟩ : 33 ≤ (s[k]'hlt).toNat ∧ (s[k]'hlt).toNat ≤ 126 := by simpa [signB] using hg
        have HA2 : Hid ((s.data.toList.take (k + 1)).all signB = true) := by
          show _ = _
          rw [List.take_add_one, HGK.out, List.all_append, HALL.out]
          simp [hg]
        have c1 : ¬ ((s[k]'hlt).toNat : Int) < 33 := by omega
        have c2 : ¬ (126 : Int) < ((s[k]'hlt).toNat : Int) := by omega
        clear hg
        go_wp2
        go_round
        case rel => exact ⟨k + 1, by omega, by go_num, HA2.out⟩
        case measure => simp [intOf]; omega
      · have HR := Lib.hid (rightB_sign HGK.out (by simpa using hg))
        have hg2 : ¬ (33 ≤ (s[k]'hlt).toNat ∧ (s[k]'hlt).toNat ≤ 126) := by simpa [signB] using hg
        clear hg
        by_cases h1 : (s[k]'hlt).toNat < 33
        · have c1 : ((s[k]'hlt).toNat : Int) < 33 := by omega
          clear hg2
          go_wp2
          go_ret
          exact ⟨by rw [HR.out]; rfl, Below.refl _ _⟩
        · have c1 : ¬ ((s[k]'hlt).toNat : Int) < 33 := by omega
          have c2 : (126 : Int) < ((s[k]'hlt).toNat : Int) := by omega
          clear hg2
          go_wp2
          go_ret
          exact ⟨by rw [HR.out]; rfl, Below.refl _ _⟩
    · obtain rfl : k = s.size := by omega
      have HRT : Hid (rightB s.data.toList = (partsS s.data.toList).all partM) := by
        show _ = _
        have h1 := HALL.out
        rw [List.take_of_length_le (by rw [HLN.out]; exact Nat.le_refl _)] at h1
        unfold rightB
        rw [h1, HLN.out, decide_eq_true (show 1 ≤ s.size by omega), decide_eq_true (show s.size ≤ 64 by omega)]
        simp
      have HPT := Lib.hid (refParts_any s w (by omega))
      have hpl := partsL_length s.data.toList
      rw [HLN.out] at hpl
      clear HALL hlt
      generalize partsS s.data.toList = ps at *
      go_wp2_with (go_at_call 37; refine HPT.out.mono ?_; rintro e w2 ⟨A, c, rfl, hown, hbel⟩; have HB2 := Lib.hid hbel; have HC2 := Lib.hid hown.cells; clear hown hbel)
      go_loop [5] (fun i => ∃ k : Nat, k ≤ ps.length ∧ i = .int .i64 k ∧ (ps.take k).all partM = true) (fun i => ps.length - (intOf i).toNat)
      case atStart => exact ⟨0, Nat.zero_le _, rfl, rfl⟩
      case round =>
        obtain ⟨k, hk, rfl, hall⟩ := hrel
        have HALL := Lib.hid hall
        clear hall
        by_cases hlt : k < ps.length
        · obtain ⟨x, hxk⟩ : ∃ x, ps[k]? = some x := ⟨_, List.getElem?_eq_getElem hlt⟩
          have HXK := Lib.hid hxk
          obtain ⟨b, o, rfl, hb, hcell⟩ := HC2.out (by unfold textCells; rw [List.length_map]; omega)
          have hc := hcell k _ (textCells_get hxk)
          clear hcell hxk
          by_cases hp : partM x = true
          · have HA2 : Hid ((ps.take (k + 1)).all partM = true) := by
              show _ = _
              rw [List.take_add_one, HXK.out, List.all_append, HALL.out]
              simp [hp]
            obtain ⟨⟨x0, x1⟩, x2⟩ : (x ≠ [] ∧ x ≠ [46]) ∧ x ≠ [46, 46] := by simpa [partM] using hp
            have hxl : (⟨x.toArray⟩ : ByteArray).toList = x := by rw [ByteArray.toList_eq]
            have y0 : x.isEmpty = false := by simpa using x0
            have y1 : (x == [46]) = false := by simpa using x1
            have y2 : (x == [46, 46]) = false := by simpa using x2
            clear hp
            go_wp2
            go_round
            case rel => exact ⟨k + 1, by omega, by go_num, HA2.out⟩
            case measure => simp [intOf]; omega
          · have HR : Hid (rightB s.data.toList = false) := by
              show _ = _
              rw [HRT.out, List.all_eq_false]
              exact ⟨x, List.mem_of_getElem? HXK.out, by simpa using hp⟩
            have hx3 : x = [] ∨ x = [46] ∨ x = [46, 46] := by
              have : ¬ ((x ≠ [] ∧ x ≠ [46]) ∧ x ≠ [46, 46]) := fun h => hp (by simpa [partM] using h)
              by_cases e0 : x = []
              · exact .inl e0
              · by_cases e1 : x = [46]
                · exact .inr (.inl e1)
                · by_cases e2 : x = [46, 46]
                  · exact .inr (.inr e2)
                  · exact absurd ⟨⟨e0, e1⟩, e2⟩ this
            clear hp HXK
            rcases hx3 with rfl | rfl | rfl
            · go_wp2
              go_ret
              exact ⟨by rw [HR.out]; rfl, HB2.out⟩
            · go_wp2
              go_ret
              exact ⟨by rw [HR.out]; rfl, HB2.out⟩
            · go_wp2
              go_ret
              exact ⟨by rw [HR.out]; rfl, HB2.out⟩
        · obtain rfl : k = ps.length := by omega
          have HR : Hid (rightB s.data.toList = true) := by
            show _ = _
            have := HALL.out
            rw [List.take_of_length_le (Nat.le_refl _)] at this
            rw [HRT.out, this]
          go_wp2
          go_ret
          exact ⟨by rw [HR.out]; rfl, HB2.out⟩
end Go.Proofs.YtfnkbpcimbldbaaDoor
