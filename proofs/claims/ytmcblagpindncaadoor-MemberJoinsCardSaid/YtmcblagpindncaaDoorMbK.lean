/- member.Children: the first parts of what a folder has; the chapter's example. -/
import Derived.Test.YtmcblagpindncaaDoorMbU
import Derived.Test.YtmcblagpindncaaDoorStrIndex
import Derived.Test.YtmcblagpindncaaDoorMoves
namespace Go.Proofs.YtmcblagpindncaaDoor
open Go.RowKit

/-- A text's first part. -/
def cutH (l : List UInt8) : List UInt8 := (partsS l).headD []
theorem cutH_none {l : List UInt8} (h : Lib.indexByte l 47 < 0) : cutH l = l := by unfold cutH; rw [parts_none h]; rfl
theorem cutH_some {l : List UInt8} {i : Nat} (h : Lib.indexByte l 47 = (i : Int)) : cutH l = l.take i := by unfold cutH; rw [(parts_some h).2]; rfl
set_option maxHeartbeats 1000000 in
theorem scutT_any (s : ByteArray) (w : World) (hs : s.size ≤ maxLen) :
    Calls Tryd.prog 39 #[.string s, .string ⟨#[47]⟩] w fun e w' => ∃ r b, e = .returned (.tuple #[.string ⟨(cutH s.data.toList).toArray⟩, r, b]) ∧ ∃ n, w.drewN n = w' := by
  have HI := Lib.hid (stringslite_Index_one s 47 w)
  by_cases h0 : Lib.indexByte s.data.toList 47 < 0
  · have HE := Lib.hid (cutH_none h0)
    have hd : ¬ (0 ≤ Lib.indexByte s.data.toList 47) := by omega
    obtain ⟨i, hi⟩ : ∃ i, Lib.indexByte s.data.toList 47 = i := ⟨_, rfl⟩
    rw [hi] at HI hd
    clear h0 hi
    go_enter Tryd.func39, Tryd.ntmps39
    go_wp2_with (go_at_call 49; refine HI.out.mono ?_; rintro e w' ⟨rfl, rfl⟩)
    go_ret3
    exact ⟨_, _, by rw [HE.out]; rfl, 0, rfl⟩
  · obtain ⟨i, hi⟩ : ∃ i : Nat, Lib.indexByte s.data.toList 47 = (i : Int) := ⟨(Lib.indexByte s.data.toList 47).toNat, by omega⟩
    have HE := Lib.hid (cutH_some hi)
    have hlt := (parts_some hi).1
    have hss : s.data.toList.length = s.size := rfl
    have HX := Lib.hid (extract_take s i)
    rw [hi] at HI
    have hge : (0 : Int) ≤ (i : Int) := by omega
    have hil : i ≤ s.size := by omega
    have hw1 : IntKind.i64.wrap ((i : Int) + 1) = (i : Int) + 1 := IntWalk.i64_in _ (by unfold maxLen at hs; omega)
    have hil2 : i + 1 ≤ s.size := by omega
    clear hi h0 hlt
    go_enter Tryd.func39, Tryd.ntmps39
    go_wp2_with (go_at_call 49; refine HI.out.mono ?_; rintro e w' ⟨rfl, rfl⟩)
    go_quiet (fail)
    go_wp2
    go_ret3
    exact ⟨_, _, by rw [HE.out, ← HX.out]; rfl, _, rfl⟩
set_option maxHeartbeats 1000000 in
theorem cutT_any (s : ByteArray) (w : World) (hs : s.size ≤ maxLen) :
    Calls Tryd.prog 27 #[.string s, .string ⟨#[47]⟩] w fun e w' => ∃ r b, e = .returned (.tuple #[.string ⟨(cutH s.data.toList).toArray⟩, r, b]) ∧ ∃ n, w.drewN n = w' := by
  have HI := Lib.hid (scutT_any s w hs)
  go_enter Tryd.func27, Tryd.ntmps27
  go_wp2_with (go_at_call 39; refine HI.out.mono ?_; rintro e w' ⟨r, b, rfl, n, rfl⟩)
  go_ret3
  exact ⟨_, _, rfl, n, rfl⟩

/-- What stands first behind a folder. -/
def childT (f : ByteArray) (p : List UInt8) : List UInt8 := cutH (Lib.trimPrefix p (f.data.toList ++ [47]))
theorem own_text_set {w : World} {base g n c k : Nat} {e : TypeId} {pre post : List (List UInt8)} {x y : List UInt8} (h : w.ownsRow base e 1 (.slice (some ⟨g, 0, none⟩) n c) n (textCells (pre ++ x :: post))) (hk : pre.length = k) (hn : k < n) :
    (w.setCell ⟨g, k, none⟩ (.string ⟨y.toArray⟩)).ownsRow base e 1 (.slice (some ⟨g, 0, none⟩) n c) n (textCells (pre ++ y :: post)) := by
  have h1 := own_setcell h k (.string ⟨y.toArray⟩) hn
  have e1 : splice (textCells (pre ++ x :: post)) k [.string ⟨y.toArray⟩] = textCells (pre ++ y :: post) := by
    have e2 : ∀ z : List UInt8, textCells (pre ++ z :: post) = textCells pre ++ .string ⟨z.toArray⟩ :: textCells post := fun z => by unfold textCells; simp
    have e3 : (textCells pre).length = k := by rw [text_len]; exact hk
    unfold splice
    rw [e2, e2, List.take_left' e3]
    rw [List.drop_append, List.drop_of_length_le (by rw [e3]; simp), e3]
    simp
  rw [e1] at h1
  exact h1
set_option maxRecDepth 100000 in
set_option maxHeartbeats 2000000 in
theorem childrenM_any (A : Option Addr) (l c : Nat) (ss : List (List UInt8)) (f : ByteArray) (B : Nat) (w : World) (hl : ss.length = l) (hm : l ≤ 1000000) (hb : Cells w B A (textCells ss)) (hB : B ≤ w.heap.size) (hf : f.size ≤ 1000) (hn : ∀ p ∈ ss, p.length ≤ 1000) :
    Calls Tryd.prog 19 #[.slice A l c, .string f] w fun e w' => ∃ A' c', e = .returned (.slice A' (sortB ((sortB (inS f ss)).map (childT f))).length c') ∧ w'.ownsRow w.heap.size 9 1 (.slice A' (sortB ((sortB (inS f ss)).map (childT f))).length c') (sortB ((sortB (inS f ss)).map (childT f))).length (textCells (sortB ((sortB (inS f ss)).map (childT f)))) ∧ Below w.heap.size w w' := by
  have HU := Lib.hid (underM_any A l c ss f B w hl hm hb hB hf (fun p hp => by have := hn p hp; unfold maxLen; omega))
  have HUN : Hid (∀ p ∈ sortB (inS f ss), p.length ≤ 1000) := fun p hp => hn p (List.mem_filter.1 (sortB_mem.1 hp)).1
  obtain ⟨us, hus⟩ : ∃ us, sortB (inS f ss) = us := ⟨_, rfl⟩
  have HUL : Hid (us.length ≤ 1000000) := by
    show _ ≤ _
    rw [← hus]
    exact Nat.le_trans (sortB_len _) (Nat.le_trans (List.length_filter_le _ _) (by omega))
  rw [hus] at HU HUN ⊢
  have hpl : (f ++ (⟨#[47]⟩ : ByteArray)).data.toList = f.data.toList ++ [47] := by simp
  clear hb hl hB hn hus
  go_enter Tryd.func19, Tryd.ntmps19
  go_wp2_with (go_at_call 17; refine HU.out.mono ?_; rintro e w1 ⟨Au, cu, rfl, ho, hbel⟩; have HO := Lib.hid ho; have HB1 := Lib.hid hbel; clear ho hbel HU)
  obtain ⟨n, hnn⟩ : ∃ n, us.length = n := ⟨_, rfl⟩
  have HNN := Lib.hid hnn
  rw [hnn] at HO HUL ⊢
  clear hnn
  have hnl := HUL.out
  go_loopg [13] n (fun gk i wr => ∃ k : Nat, k + gk = n ∧ i = .int .i64 k ∧ wr.ownsRow w.heap.size 9 1 (.slice Au n cu) n (textCells ((us.take k).map (childT f) ++ us.drop k)) ∧ Below w.heap.size w wr)
  case atStart => exact ⟨0, by omega, rfl, by simpa using HO.out, HB1.out⟩
  case round =>
    obtain ⟨k, hk, rfl, hown, hbel⟩ := hrel
    have HOWN := Lib.hid hown
    have HBL := Lib.hid hbel
    clear hown hbel
    by_cases h : k < n
    · obtain ⟨x, hx⟩ : ∃ x, us[k]? = some x := ⟨_, List.getElem?_eq_getElem (by have := HNN.out; omega)⟩
      have hdx : us.drop k = x :: us.drop (k + 1) := by
        obtain ⟨h1, h2⟩ := List.getElem?_eq_some_iff.1 hx
        rw [← h2]
        exact List.drop_eq_getElem_cons h1
      have htk : ((us.take k).map (childT f)).length = k := by rw [List.length_map, List.length_take]; have := HNN.out; omega
      rw [hdx] at HOWN
      have HTK := Lib.hid (takeT_snoc hx)
      have HLT := Lib.hid htk
      have hxs : x.length ≤ 1000 := HUN.out x (List.mem_of_getElem? hx)
      have hts : (Lib.trimPrefix x (f.data.toList ++ [47])).length ≤ 1000 := by
        unfold Lib.trimPrefix
        split
        · rw [List.length_drop]; omega
        · exact hxs
      rcases ownK_form HOWN.out with ⟨he, h0⟩ | ⟨g, c', he⟩
      · omega
      · injection he with hA _ hc
        subst hA hc
        obtain ⟨cur, hg, htk2, hgw, hnc, hcm, hcs, hxl⟩ := ownK_row HOWN.out
        have c0 : wr.cell? ⟨g, k, none⟩ = some (.string ⟨x.toArray⟩) := by
          have h1 := textCells_own HOWN.out (by rw [text_len, List.length_append, htk, List.length_cons]; omega)
          obtain ⟨b, o, e, _, hcc⟩ := h1
          injection e with e
          injection e with e1 e2
          subst e1 e2
          have h2 := hcc k _ (textCells_get (p := x) (by rw [List.getElem?_append_right (by omega), htk, Nat.sub_self]; rfl))
          rw [Nat.zero_add] at h2
          exact h2
        have f0 : wr.frozen? ⟨g, k, none⟩ = false := frozen_of_row wr g k _ _ hg
        have HTP := Lib.hid (fun W => Tryd.strings_TrimPrefix ⟨x.toArray⟩ (f ++ ⟨#[47]⟩) W)
        have HCT := Lib.hid (fun W => cutT_any ⟨(Lib.trimPrefix x (f.data.toList ++ [47])).toArray⟩ W (by rw [show (⟨(Lib.trimPrefix x (f.data.toList ++ [47])).toArray⟩ : ByteArray).size = (Lib.trimPrefix x (f.data.toList ++ [47])).length from by show (List.toArray _).size = _; simp]; unfold maxLen; omega))
        rw [hpl] at HTP
        have hki : (k : Int) < (n : Int) := by omega
        have hw1 : IntKind.i64.wrap ((k : Int) + 1) = (k : Int) + 1 := IntWalk.i64_in _ (by omega)
        have HCH : Hid (cutH (Lib.trimPrefix x (f.data.toList ++ [47])) = childT f x) := rfl
        have HNI := Lib.hid htk2
        have HGW := Lib.hid hgw
        clear hx hdx htk htk2 hg hpl
        go_wp2_with (first
          | (go_at_call 26; refine (HTP.out _).mono ?_; rintro e w2 ⟨rfl, rfl⟩)
          | (go_at_call 27; refine (HCT.out _).mono ?_; rintro e w' ⟨r, b, rfl, nd, rfl⟩))
        go_roundg (gk - 1)
        case measure => omega
        case rel =>
          rw [HCH.out]
          have h1 : (w2.drewN nd).ownsRow w.heap.size 9 1 (.slice (some ⟨g, 0, none⟩) n cu) n (textCells ((us.take k).map (childT f) ++ x :: us.drop (k + 1))) := HOWN.out
          have h2 := own_text_set (y := childT f x) h1 HLT.out (by omega)
          refine ⟨k + 1, by omega, by go_num, ?_, (Below.drewN HBL.out nd).setCell (by show _ ≤ g; exact HGW.out) _⟩
          rw [HTK.out, List.map_append, List.append_assoc]
          exact h2
    · obtain rfl : k = n := by omega
      have hdr : us.drop k = [] := List.drop_of_length_le (by have := HNN.out; omega)
      have htk : us.take k = us := List.take_of_length_le (by have := HNN.out; omega)
      rw [hdr, htk, List.append_nil] at HOWN
      have HS := Lib.hid (sortM_any Au k cu (us.map (childT f)) wr.heap.size wr (by rw [List.length_map]; exact HNN.out) (by omega) (textCells_own HOWN.out) (Nat.le_refl _))
      clear hdr htk
      go_wp2_with (go_at_call 20; refine HS.out.mono ?_; rintro e w1 ⟨A', c', rfl, ho, hbel⟩; have HO5 := Lib.hid ho; have HB5 := Lib.hid hbel; clear ho hbel)
      go_ret
      exact ⟨A', c', rfl, ownT_low HO5.out HBL.out.size, HBL.out.trans (HB5.out.mono HBL.out.size)⟩
end Go.Proofs.YtmcblagpindncaaDoor
