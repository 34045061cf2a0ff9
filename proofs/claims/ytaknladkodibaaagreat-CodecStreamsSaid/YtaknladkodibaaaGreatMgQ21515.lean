/- Layer 8: a code in memory: New, Len, Symbols; Ints of the reference. -/
import Derived.Test.YtaknladkodibaaaGreatMgQ21514
namespace Go.Proofs.YtaknladkodibaaaGreat
open Go.RowKit

def isMax (zs : List Int) (m : Int) : Prop := (∀ x ∈ zs, x ≤ m) ∧ m ∈ zs
set_option maxHeartbeats 1000000 in
theorem clone8_any (A : Option Addr) (l c : Nat) (zs : List Int) (B : Nat) (w : World) (hl : zs.length = l) (h1 : 1 ≤ l) (hm : l ≤ 1000) (hb : Cells w B A (zs.map ic)) (hB : B ≤ w.heap.size) :
    Calls Tryz.prog 56 #[.slice A l c] w fun e w' => ∃ A' c', e = .returned (.slice A' l c') ∧ w'.ownsRow w.heap.size 3 1 (.slice A' l c') l (zs.map ic) ∧ Below w.heap.size w w' := by
  have HC := Lib.hid hb
  have HL := Lib.hid hl
  have HONE : Hid (∀ u ∈ zs.map ic, u.oneCell' = true) := fun u hu => by
    obtain ⟨s, _, rfl⟩ := List.mem_map.1 hu
    rfl
  obtain ⟨b, o, rfl, hbB, hc⟩ := hb (by rw [List.length_map]; omega)
  obtain ⟨W1, hW1⟩ : ∃ W1, w.alloc (.cells #[] 3) = W1 := ⟨_, rfl⟩
  have HOWN := Lib.hid (show W1.ownsRow w.heap.size 3 1 (.slice (some ⟨w.heap.size, 0, none⟩) 0 0) 0 [] by rw [← hW1]; exact own_empty w _ (Nat.le_refl _))
  have HB1 := Lib.hid (show Below w.heap.size w W1 by rw [← hW1]; exact (Below.refl _ w).alloc (Nat.le_refl _) _)
  have HC1 := Lib.hid (HC.out.below (HB1.out.mono hB) (Nat.le_refl _))
  clear hc hbB hl
  have hnil := Lib.run_eql_slice_nil (P := Tryz.prog) w 56 3 (some ⟨b, o, none⟩) l c 0 0 Tryz.underlying56
  go_enter Tryz.func56, Tryz.ntmps56
  go_wp2_with (at_builtin; refine wpList_app _ intElem rfl (.tmp 5) (.tmp 6) rfl w.heap.size (.slice (some ⟨w.heap.size, 0, none⟩) 0 0) 0 _ rfl HOWN.out _ _ l c (zs.map ic) rfl (by rw [List.length_map, HL.out, Nat.mul_one]) HC1.out HONE.out (by unfold maxLen; omega) (by omega) HB1.out.size ?_; intro A3 c3 w3 hA; have HA := Lib.hid hA; clear hA)
  go_ret
  exact ⟨A3, c3, rfl, by have := HA.out.own; rwa [Nat.zero_add, List.nil_append] at this, HA.out.below HB1.out HB1.out.size (own_base HOWN.out)⟩
set_option maxHeartbeats 1000000 in
theorem max_any (A : Option Addr) (l c : Nat) (zs : List Int) (B : Nat) (w : World) (hl : zs.length = l) (h1 : 1 ≤ l) (hm : l ≤ 1099511627776) (hb : Cells w B A (zs.map ic)) :
    Calls Tryz.prog 78 #[.slice A l c] w fun e w' => ∃ m : Int, e = .returned (.int .i64 m) ∧ isMax zs m ∧ w = w' := by
  have HL := Lib.hid hl
  obtain ⟨b, o, rfl, hbB, hc⟩ := hb (by rw [List.length_map]; omega)
  obtain ⟨x, hx⟩ : ∃ x, zs[0]? = some x := ⟨_, List.getElem?_eq_getElem (show 0 < zs.length by omega)⟩
  have c0 : w.cell? ⟨b, o, none⟩ = some (.int .i64 x) := hc 0 _ (by rw [List.getElem?_map, hx]; rfl)
  have HX := Lib.hid hx
  have HC := Lib.hid hc
  have hd : decide ((l : Int) < 1) = false := decide_eq_false (by omega)
  clear hc hx hb hl
  go_enter Tryz.func78, Tryz.ntmps78
  go_wp2
  go_loopg [3, 4] l (fun gk v i wr => ∃ (k : Nat) (m : Int), k + gk = l + 1 ∧ 1 ≤ k ∧ k ≤ l ∧ i = .int .i64 k ∧ v = .int .i64 m ∧ isMax (zs.take k) m ∧ wr = w)
  case atStart => exact ⟨1, x, by omega, Nat.le_refl _, h1, rfl, rfl, by rw [take_snoc' HX.out]; simp [isMax], rfl⟩
  case round =>
    obtain ⟨k, m, hk, hk1, hkl, rfl, rfl, hmx, rfl⟩ := hrel
    clear c0
    by_cases h : k < l
    · obtain ⟨y, hy⟩ : ∃ y, zs[k]? = some y := ⟨_, List.getElem?_eq_getElem (by have := HL.out; omega)⟩
      have c1 : wr.cell? ⟨b, o + k, none⟩ = some (.int .i64 y) := HC.out k _ (by rw [List.getElem?_map, hy]; rfl)
      have HT : Hid (zs.take (k + 1) = zs.take k ++ [y]) := take_snoc' hy
      have HM := Lib.hid hmx
      clear hy hmx
      by_cases hc : m < y
      · have HN : Hid (isMax (zs.take (k + 1)) y) := by
          show isMax _ _
          rw [HT.out]
          refine ⟨fun z hz => ?_, by simp⟩
          rcases List.mem_append.1 hz with hz | hz
          · have := HM.out.1 z hz; omega
          · simp at hz; omega
        go_wp2
        go_roundg (gk - 1)
        case measure => omega
        case rel => exact ⟨k + 1, y, by omega, by omega, by omega, by go_num, by go_num, HN.out, rfl⟩
      · have HN : Hid (isMax (zs.take (k + 1)) m) := by
          show isMax _ _
          rw [HT.out]
          refine ⟨fun z hz => ?_, by simp [HM.out.2]⟩
          rcases List.mem_append.1 hz with hz | hz
          · exact HM.out.1 z hz
          · simp at hz; omega
        go_wp2
        go_roundg (gk - 1)
        case measure => omega
        case rel => exact ⟨k + 1, m, by omega, by omega, by omega, by go_num, by go_num, HN.out, rfl⟩
    · obtain rfl : k = l := by omega
      have ht : zs.take k = zs := List.take_of_length_le (by have := HL.out; omega)
      rw [ht] at hmx
      go_wp2
      go_ret
      exact ⟨m, rfl, hmx, rfl⟩
theorem longest_any (A : Option Addr) (l c : Nat) (zs : List Int) (B : Nat) (w : World) (hl : zs.length = l) (h1 : 1 ≤ l) (hm : l ≤ 1099511627776) (hb : Cells w B A (zs.map ic)) :
    Calls Tryz.prog 57 #[.slice A l c] w fun e w' => ∃ m : Int, e = .returned (.int .i64 m) ∧ isMax zs m ∧ w = w' := by
  have HM := Lib.hid (max_any A l c zs B w hl h1 hm hb)
  have hd : ((l : Int) == 0) = false := by simp; omega
  clear hb hl
  go_enter Tryz.func57, Tryz.ntmps57
  go_wp2_with (go_at_call 78; refine HM.out.mono ?_; rintro e w' ⟨m, rfl, hmx, rfl⟩)
  go_ret
  exact ⟨m, rfl, hmx, rfl⟩
end Go.Proofs.YtaknladkodibaaaGreat
/- Layer 8: a code in memory: New. -/
namespace Go.Proofs.YtaknladkodibaaaGreat
open Go.RowKit

/-- How many symbols of a list have each length. -/
def cntN (zs : List Int) (os : List Nat) (n : Nat) : Nat := (os.filter fun s => decide (zs.getD s 0 = (n : Int))).length
def cntL (zs : List Int) (os : List Nat) : List Int := (List.range 16).map fun n => (cntN zs os n : Int)
/-- .. of the lengths up to one, from 0 up to k. -/
def mixL (zs : List Int) (k : Nat) : List Int := (List.range 16).map fun n => if n < k then ((whole zs n).length : Int) else (cntN zs (ordL zs) n : Int)
def endsL (zs : List Int) : List Int := (List.range 16).map fun n => ((whole zs n).length : Int)
theorem cntN_snoc (zs : List Int) (os : List Nat) (s n : Nat) : cntN zs (os ++ [s]) n = cntN zs os n + (if zs.getD s 0 = (n : Int) then 1 else 0) := by
  unfold cntN
  rw [List.filter_append, List.length_append]
  congr 1
  show (match decide (zs.getD s 0 = (n : Int)) with | true => [s] | false => []).length = _
  by_cases h : zs.getD s 0 = (n : Int)
  · rw [decide_eq_true h, if_pos h]; rfl
  · rw [decide_eq_false h, if_neg h]; rfl
theorem range_map_get {f : Nat → Int} {i : Nat} (h : i < 16) : ((List.range 16).map f)[i]? = some (f i) := by
  rw [List.getElem?_map, List.getElem?_range h]; rfl
theorem range_map_set (f g : Nat → Int) (i : Nat) (y : Int) (hi : g i = y) (ho : ∀ j, j ≠ i → g j = f j) : ((List.range 16).map f).set i y = (List.range 16).map g := by
  apply List.ext_getElem?
  intro j
  rw [List.getElem?_set]
  by_cases h : i = j
  · subst h
    rw [if_pos rfl]
    by_cases h16 : i < 16
    · rw [if_pos (by simpa using h16), range_map_get h16, hi]
    · rw [if_neg (by simpa using h16), List.getElem?_eq_none (by simpa using h16)]
  · rw [if_neg h]
    by_cases h16 : j < 16
    · rw [range_map_get h16, range_map_get h16, ho j (by omega)]
    · rw [List.getElem?_eq_none (by simpa using h16), List.getElem?_eq_none (by simpa using h16)]
theorem cntL_snoc {zs : List Int} {os : List Nat} {s n : Nat} (hs : zs[s]? = some (n : Int)) : (cntL zs os).set n ((cntN zs os n : Int) + 1) = cntL zs (os ++ [s]) := by
  unfold cntL
  refine range_map_set _ _ _ _ ?_ (fun j hj => ?_)
  · show ((cntN zs (os ++ [s]) n : Nat) : Int) = _
    rw [cntN_snoc, getD_of hs, if_pos rfl]
    omega
  · show ((cntN zs (os ++ [s]) j : Nat) : Int) = _
    rw [cntN_snoc, getD_of hs, if_neg (by omega)]
    rfl
theorem cnt_whole (zs : List Int) (n : Nat) (h1 : 1 ≤ n) : ∀ m, cntN zs (whole zs m) n = if n ≤ m then (ixs zs n zs.length).length else 0
  | 0 => by rw [if_neg (by omega)]; rfl
  | m + 1 => by
    have ih := cnt_whole zs n h1 m
    have key : cntN zs (ixs zs (m + 1) zs.length) n = if n = m + 1 then (ixs zs n zs.length).length else 0 := by
      unfold cntN
      by_cases e : n = m + 1
      · subst e
        rw [if_pos rfl, List.filter_eq_self.2]
        intro s hs
        simp only [ixs, List.mem_filter, decide_eq_true_eq] at hs
        exact decide_eq_true (getD_of hs.2)
      · rw [if_neg e, List.filter_eq_nil_iff.2]
        · rfl
        · intro s hs
          simp only [ixs, List.mem_filter, decide_eq_true_eq] at hs
          rw [decide_eq_true_eq, getD_of hs.2]
          omega
    have hadd : cntN zs (whole zs (m + 1)) n = cntN zs (whole zs m) n + cntN zs (ixs zs (m + 1) zs.length) n := by
      unfold cntN
      rw [whole, List.filter_append, List.length_append]
    rw [hadd, ih, key]
    by_cases h2 : n ≤ m
    · rw [if_pos h2, if_neg (by omega), if_pos (by omega), Nat.add_zero]
    · by_cases h3 : n = m + 1
      · rw [if_neg h2, if_pos h3, if_pos (by omega), Nat.zero_add]
      · rw [if_neg h2, if_neg h3, if_neg (by omega)]
theorem mixL_start (zs : List Int) : mixL zs 1 = cntL zs (ordL zs) := by
  unfold mixL cntL
  apply List.map_congr_left
  intro n _
  by_cases h : n < 1
  · obtain rfl : n = 0 := by omega
    rw [if_pos (by omega)]
    have : cntN zs (ordL zs) 0 = 0 := by
      unfold cntN
      rw [List.filter_eq_nil_iff.2]
      · rfl
      · intro s hs
        obtain ⟨n, h1, h2, _⟩ := whole_mem hs
        rw [decide_eq_true_eq, getD_of h1]
        omega
    rw [this]
    rfl
  · rw [if_neg h]
theorem mixL_end (zs : List Int) : mixL zs 16 = endsL zs := by
  unfold mixL endsL
  apply List.map_congr_left
  intro n hn
  rw [List.mem_range] at hn
  rw [if_pos hn]
theorem mixL_step (zs : List Int) (k : Nat) (h1 : 1 ≤ k) (h15 : k ≤ 15) : (mixL zs k).set k ((cntN zs (ordL zs) k : Int) + ((whole zs (k - 1)).length : Int)) = mixL zs (k + 1) := by
  unfold mixL
  refine range_map_set _ _ _ _ ?_ (fun j hj => ?_)
  · show (if k < k + 1 then ((whole zs k).length : Int) else _) = _
    rw [if_pos (by omega)]
    have h2 := cnt_whole zs k h1 15
    rw [if_pos h15] at h2
    obtain ⟨m, rfl⟩ : ∃ m, k = m + 1 := ⟨k - 1, by omega⟩
    unfold ordL
    rw [h2, whole, List.length_append, Nat.add_sub_cancel]
    omega
  · show (if j < k + 1 then ((whole zs j).length : Int) else _) = (if j < k then ((whole zs j).length : Int) else _)
    by_cases h : j < k
    · rw [if_pos h, if_pos (by omega)]
    · rw [if_neg h, if_neg (by omega)]

/-- A code's block: its slices and longest, and the ends. -/
def CB (w : World) (g : Nat) (v1 v2 v3 v4 : Value) (es : List Int) : Prop := w.heap[g]? = some (.cells ([v1, v2, v3, v4] ++ es.map ic).toArray 91 (0, 0))
theorem cb_end {w : World} {g : Nat} {v1 v2 v3 v4 : Value} {es : List Int} {i : Nat} {x : Int} (h : CB w g v1 v2 v3 v4 es) (hx : es[i]? = some x) : w.cell? ⟨g, 4 + i, none⟩ = some (.int .i64 x) := by
  rw [cell_of_row w g (4 + i) _ _ _ h]
  rw [List.getElem?_toArray, List.getElem?_append_right (by simp)]
  simp [hx, ic]
theorem cb_pre {w : World} {g : Nat} {v1 v2 v3 v4 : Value} {es : List Int} (h : CB w g v1 v2 v3 v4 es) :
    w.cell? ⟨g, 0, none⟩ = some v1 ∧ w.cell? ⟨g, 1, none⟩ = some v2 ∧ w.cell? ⟨g, 2, none⟩ = some v3 ∧ w.cell? ⟨g, 3, none⟩ = some v4 := by
  refine ⟨?_, ?_, ?_, ?_⟩ <;> rw [cell_of_row w g _ _ _ _ h] <;> rfl
theorem cb_free {w : World} {g : Nat} {v1 v2 v3 v4 : Value} {es : List Int} (h : CB w g v1 v2 v3 v4 es) (i : Nat) : w.frozen? ⟨g, i, none⟩ = false := frozen_of_row w g i _ _ h
theorem cb_set {w : World} {g : Nat} {v1 v2 v3 v4 : Value} {es : List Int} (h : CB w g v1 v2 v3 v4 es) (i : Nat) (y : Int) : CB (w.setCell ⟨g, 4 + i, none⟩ (.int .i64 y)) g v1 v2 v3 v4 (es.set i y) := by
  unfold CB
  rw [heap_setCell_same w g (4 + i) _ _ _ h, List.setIfInBounds_toArray]
  congr 3
  rw [List.set_append_right _ _ (by simp), List.map_set]
  simp [ic]
theorem cb_lt {w : World} {g : Nat} {v1 v2 v3 v4 : Value} {es : List Int} (h : CB w g v1 v2 v3 v4 es) : g < w.heap.size := (Array.getElem?_eq_some_iff.1 h).1
/-- A code in memory: of lengths that may be one. -/
def LC (w : World) (g : Nat) (zs : List Int) : Prop := ∃ (A1 A2 A3 : Option Addr) (c1 c2 c3 : Nat) (m : Int), CB w g (.slice A1 zs.length c1) (.slice A2 zs.length c2) (.int .i64 m) (.slice A3 (ordL zs).length c3) (endsL zs) ∧
  isMax zs m ∧ Cells w g A1 (zs.map ic) ∧ Cells w g A2 ((caV zs).map ic) ∧ Cells w g A3 ((ordL zs).map nc)
/-- A code in memory all of whose blocks lie from n on. -/
def LCa (w : World) (n g : Nat) (zs : List Int) : Prop := ∃ (A1 A2 A3 : Option Addr) (c1 c2 c3 : Nat) (m : Int), CB w g (.slice A1 zs.length c1) (.slice A2 zs.length c2) (.int .i64 m) (.slice A3 (ordL zs).length c3) (endsL zs) ∧
  isMax zs m ∧ Cells w g A1 (zs.map ic) ∧ Cells w g A2 ((caV zs).map ic) ∧ Cells w g A3 ((ordL zs).map nc) ∧ n ≤ g ∧ ∀ a, A1 = some a ∨ A2 = some a ∨ A3 = some a → n ≤ a.block
theorem LCa.lc {w : World} {n g : Nat} {zs : List Int} (h : LCa w n g zs) : LC w g zs := by
  obtain ⟨A1, A2, A3, c1, c2, c3, m, h1, h2, h3, h4, h5, _, _⟩ := h
  exact ⟨A1, A2, A3, c1, c2, c3, m, h1, h2, h3, h4, h5⟩
set_option maxHeartbeats 1000000 in
theorem new_low (A : Option Addr) (l c : Nat) (zs : List Int) (B : Nat) (w : World) (hl : zs.length = l) (hm : l ≤ 1000) (hb : Cells w B A (zs.map ic)) (hB : B ≤ w.heap.size) (hr : caR zs = true) :
    Calls Tryz.prog 37 #[.slice A l c] w fun e w' => ∃ g, e = .returned (.tuple #[.pointer (some ⟨g, 0, none⟩), .int .i64 0]) ∧ LCa w' w.heap.size g zs ∧ Below w.heap.size w w' := by
  have hl1 : 1 ≤ l := by
    rcases Nat.eq_zero_or_pos l with h | h
    · rw [h] at hl
      rw [List.eq_nil_of_length_eq_zero hl, caR_empty] at hr
      cases hr
    · exact h
  have HV := Lib.hid (values_any A l c zs B w hl hm hb hB hr)
  have HC := Lib.hid (hb.more hB)
  have HL := Lib.hid hl
  clear hr hb hl
  go_enter Tryz.func37, Tryz.ntmps37
  go_wp2_with (first | (go_at_call 55; refine HV.out.mono ?_; rintro e w1 ⟨rfl, hib, hb1⟩; have HIB := Lib.hid hib; have HB1 := Lib.hid hb1; have HS1 := Lib.hid (ib_lt hib); have HC1 := Lib.hid (HC.out.below hb1 (Nat.le_refl _)); have HCL := Lib.hid (clone8_any A l c zs _ w1 HL.out hl1 hm HC1.out hb1.size); clear HV hib hb1) | (go_at_call 56; refine HCL.out.mono ?_; rintro e w2 ⟨A2, c2, rfl, ho2, hb2⟩; have HO2 := Lib.hid ho2; have HB2 := Lib.hid hb2; have HC2 := Lib.hid (HC1.out.below hb2 HB1.out.size); have HLO := Lib.hid (longest_any A l c zs _ w2 HL.out hl1 (by omega) HC2.out); clear HCL ho2 hb2) | (go_at_call 57; refine HLO.out.mono ?_; rintro e w' ⟨mx, rfl, hmx, rfl⟩; have HMX := Lib.hid hmx; have HOR := Lib.hid (order_any A l c zs _ w2 HL.out hm HC2.out (Nat.le_trans HB1.out.size HB2.out.size)); clear HLO hmx) | (go_at_call 58; refine HOR.out.mono ?_; rintro e w3 ⟨A3, c3, rfl, ho3, hb3⟩; have HO3 := Lib.hid ho3; have HB3 := Lib.hid hb3; clear HOR ho3 hb3))
  have HOc : Hid (Cells w3 w3.heap.size A3 ((ordL zs).map nc)) := Cells.of_own HO3.out
  have HZc : Hid (Cells w3 w3.heap.size A (zs.map ic)) := ((HC2.out.below HB3.out (Nat.le_trans HB1.out.size HB2.out.size)).more (Nat.le_trans (Nat.le_trans HB1.out.size HB2.out.size) HB3.out.size))
  have HKc : Hid (Cells w3 w3.heap.size A2 (zs.map ic)) := ((Cells.of_own HO2.out).below HB3.out (Nat.le_refl _)).more HB3.out.size
  have HVc : Hid (Cells w3 w3.heap.size (some ⟨w.heap.size, 0, none⟩) ((caV zs).map ic)) := (((ib_cells HIB.out HS1.out).below HB2.out (Nat.le_refl _)).below HB3.out HB2.out.size).more (Nat.le_trans HB2.out.size HB3.out.size)
  have HBE : Hid (Below w.heap.size w w3) := (HB1.out.trans (HB2.out.mono HB1.out.size)).trans (HB3.out.mono (Nat.le_trans HB1.out.size HB2.out.size))
  have HOL : Hid ((ordL zs).length ≤ 15000) := by
    have := whole_len zs 15
    have := HL.out
    show (whole zs 15).length ≤ _
    omega
  go_loopg [32] (ordL zs).length (fun gk i wr => ∃ k : Nat, k + gk = (ordL zs).length ∧ i = .int .i64 k ∧ CB wr w3.heap.size (.slice A2 l c2) (.slice (some ⟨w.heap.size, 0, none⟩) l l) (.int .i64 mx) (.slice A3 (ordL zs).length c3) (cntL zs ((ordL zs).take k)) ∧ Below w3.heap.size w3 wr)
  case atStart => exact ⟨0, by omega, rfl, heap_alloc_new w3 _, (Below.refl _ w3).alloc (Nat.le_refl _) _⟩
  case round =>
    obtain ⟨k, hk, rfl, hcb, hbe⟩ := hrel
    have hol := HOL.out
    by_cases h : k < (ordL zs).length
    · obtain ⟨s, hs⟩ : ∃ s, (ordL zs)[k]? = some s := ⟨_, List.getElem?_eq_getElem h⟩
      obtain ⟨n, hn, hn1, hn15⟩ := whole_mem (mem_get hs)
      obtain ⟨b2, o2, rfl, hb2, hc2⟩ := (HOc.out.below hbe (Nat.le_refl _)) (by rw [List.length_map]; omega)
      have c1 : wr.cell? ⟨b2, o2 + k, none⟩ = some (.int .i64 (s : Int)) := hc2 k _ (by rw [List.getElem?_map, hs]; rfl)
      obtain ⟨b, o, rfl, hb3, hc3⟩ := (HZc.out.below hbe (Nat.le_refl _)) (by rw [List.length_map, HL.out]; omega)
      have c0 : wr.cell? ⟨b, o + s, none⟩ = some (.int .i64 (n : Int)) := hc3 s _ (by rw [List.getElem?_map, hn]; rfl)
      have hsl : s < l := by have := (List.getElem?_eq_some_iff.1 hn).1; have := HL.out; omega
      have ce := cb_end (i := n) hcb (range_map_get (by omega))
      have hf := cb_free hcb (4 + n)
      have HCB := Lib.hid hcb
      have HBW := Lib.hid hbe
      have HS : Hid ((cntL zs ((ordL zs).take k)).set n ((cntN zs ((ordL zs).take k) n : Int) + 1) = cntL zs ((ordL zs).take (k + 1))) := by show _ = _; rw [cntL_snoc hn, take_snoc' hs]
      have hcnt : cntN zs ((ordL zs).take k) n ≤ 15000 := Nat.le_trans (List.length_filter_le _ _) (by rw [List.length_take]; omega)
      clear hc2 hc3 hs hn hcb hbe
      generalize cntN zs ((ordL zs).take k) n = cn at *
      go_upto_region 8 with (fail)
      go_region
      go_wp2
      go_roundg (gk - 1)
      case measure => omega
      case rel => exact ⟨k + 1, by omega, by go_num, by rw [← HS.out]; exact cb_set HCB.out n _, (HBW.out.setCell (Nat.le_refl _) _).drew⟩
    · obtain rfl : k = (ordL zs).length := by omega
      rw [List.take_length, ← mixL_start] at hcb
      have HCB := Lib.hid hcb
      have HBW := Lib.hid hbe
      clear hcb hbe
      go_wp2
      go_loopg [9] 15 (fun gk i wr => ∃ k : Nat, k + gk = 15 ∧ i = .int .i64 ((k : Int) + 1) ∧ CB wr w3.heap.size (.slice A2 l c2) (.slice (some ⟨w.heap.size, 0, none⟩) l l) (.int .i64 mx) (.slice A3 (ordL zs).length c3) (mixL zs (k + 1)) ∧ Below w3.heap.size w3 wr)
      case atStart => exact ⟨0, by omega, rfl, HCB.out, HBW.out⟩
      case round =>
        clear HCB HBW
        obtain ⟨k, hk, rfl, hcb, hbe⟩ := hrel
        by_cases h : k < 15
        · have ce := cb_end (i := k + 1) hcb (range_map_get (by omega))
          have cp := cb_end (i := k) hcb (range_map_get (by omega))
          rw [if_neg (by omega)] at ce
          rw [if_pos (by omega)] at cp
          have hf := cb_free hcb (4 + (k + 1))
          have HCB := Lib.hid hcb
          have HBW := Lib.hid hbe
          have HS := Lib.hid (mixL_step zs (k + 1) (by omega) (by omega))
          rw [Nat.add_sub_cancel] at HS
          have hcnt : cntN zs (ordL zs) (k + 1) ≤ 15000 := Nat.le_trans (List.length_filter_le _ _) (by omega)
          have hwl : (whole zs k).length ≤ 15000 := by
            have := whole_len zs k
            have := HL.out
            have : k * zs.length ≤ 15 * zs.length := Nat.mul_le_mul_right _ (by omega)
            omega
          clear hcb hbe
          generalize cntN zs (ordL zs) (k + 1) = cn at *
          generalize (whole zs k).length = wn at *
          have hd : decide ((k : Int) + 1 < 16) = true := by simp; omega
          go_upto_region 13 with (fail)
          go_region
          go_wp2
          go_roundg (gk - 1)
          case measure => omega
          case rel => exact ⟨k + 1, by omega, by go_num, by rw [← HS.out]; exact cb_set HCB.out (k + 1) _, (HBW.out.setCell (Nat.le_refl _) _).drew⟩
        · obtain rfl : k = 15 := by omega
          rw [mixL_end] at hcb
          go_wp2
          go_ret2
          refine ⟨w3.heap.size, rfl, ⟨A2, some ⟨w.heap.size, 0, none⟩, A3, c2, l, c3, mx, by rw [HL.out]; exact hcb, HMX.out, HKc.out.below hbe (Nat.le_refl _), HVc.out.below hbe (Nat.le_refl _), HOc.out.below hbe (Nat.le_refl _), HBE.out.size, fun a ha => ?_⟩, HBE.out.trans (hbe.mono HBE.out.size)⟩
          rcases ha with rfl | ha | rfl
          · exact Nat.le_trans HB1.out.size (own_base HO2.out _ rfl)
          · cases ha
            exact Nat.le_refl _
          · exact Nat.le_trans (Nat.le_trans HB1.out.size HB2.out.size) (own_base HO3.out _ rfl)
end Go.Proofs.YtaknladkodibaaaGreat
/- Layer 8: CanonValues. -/
namespace Go.Proofs.YtaknladkodibaaaGreat
open Go.RowKit

theorem caR_len {zs : List Int} (h : caR zs = true) : zs.length ≤ 320 ∧ ∀ x ∈ zs, lenB x = true := by
  unfold caR at h
  rw [Bool.and_eq_true, Bool.and_eq_true, decide_eq_true_eq, List.all_eq_true] at h
  exact h.1
theorem LC.below {w w' : World} {g : Nat} {zs : List Int} (h : LC w g zs) (hb : Below w.heap.size w w') : LC w' g zs := by
  obtain ⟨A1, A2, A3, c1, c2, c3, m, hcb, hmx, h1, h2, h3⟩ := h
  have hg := cb_lt hcb
  exact ⟨A1, A2, A3, c1, c2, c3, m, (by unfold CB; rw [hb.block g hg]; exact hcb), hmx, h1.below (hb.mono (Nat.le_of_lt hg)) (Nat.le_refl _), h2.below (hb.mono (Nat.le_of_lt hg)) (Nat.le_refl _), h3.below (hb.mono (Nat.le_of_lt hg)) (Nat.le_refl _)⟩
theorem LC.drewN {w : World} {g : Nat} {zs : List Int} (h : LC w g zs) (n : Nat) : LC (w.drewN n) g zs := h
/-- A symbol's length: none for one that there isn't. -/
def lenAt (zs : List Int) (s : Int) : Int := if 0 ≤ s then zs.getD s.toNat 0 else 0

set_option maxHeartbeats 400000 in
theorem len_any (g : Nat) (zs : List Int) (s : Int) (w : World) (h : LC w g zs) (hm : zs.length ≤ 1000) :
    Calls Tryz.prog 41 #[.pointer (some ⟨g, 0, none⟩), .int .i64 s] w fun e w' => e = .returned (.int .i64 (lenAt zs s)) ∧ w = w' := by
  obtain ⟨A1, A2, A3, c1, c2, c3, m, hcb, hmx, hc, hr⟩ := h
  obtain ⟨p0, p1, p2, p3⟩ := cb_pre hcb
  clear hcb hr hmx p1 p2 p3
  by_cases h0 : 0 ≤ s
  · by_cases hl : s < zs.length
    · obtain ⟨k, rfl⟩ := Int.eq_ofNat_of_zero_le h0
      obtain ⟨x, hx⟩ : ∃ x, zs[k]? = some x := ⟨_, List.getElem?_eq_getElem (by omega)⟩
      obtain ⟨b, o, rfl, hb, hc2⟩ := hc (by rw [List.length_map]; omega)
      have c0 : w.cell? ⟨b, o + k, none⟩ = some (.int .i64 x) := hc2 k _ (by rw [List.getElem?_map, hx]; rfl)
      have HF : Hid (lenAt zs (k : Int) = x) := by show _ = _; rw [lenAt, if_pos (by omega), Int.toNat_natCast, getD_of hx]
      have hd : decide ((k : Int) < 0) = false := by simp
      have hd2 : decide ((zs.length : Int) ≤ (k : Int)) = false := by simp; omega
      clear hc hc2 hx h0
      go_enter Tryz.func41, Tryz.ntmps41
      go_wp2
      go_ret
      exact ⟨by rw [HF.out]; rfl, rfl⟩
    · have HF : Hid (lenAt zs s = 0) := by
        show _ = _
        rw [lenAt, if_pos h0, List.getD, List.getElem?_eq_none (by omega)]; rfl
      have hd2 : decide ((zs.length : Int) ≤ s) = true := by simp; omega
      have hd : decide (s < 0) = false := by simp; omega
      clear hl hc
      go_enter Tryz.func41, Tryz.ntmps41
      go_wp2
      go_ret
      exact ⟨by rw [HF.out]; rfl, rfl⟩
  · have HF : Hid (lenAt zs s = 0) := by
      show _ = _
      rw [lenAt, if_neg h0]
    have hd : decide (s < 0) = true := by simp; omega
    clear h0 hc
    go_enter Tryz.func41, Tryz.ntmps41
    go_wp2
    go_ret
    exact ⟨by rw [HF.out]; rfl, rfl⟩
end Go.Proofs.YtaknladkodibaaaGreat
/- Layer 8: CanonValues, the law. -/
namespace Go.Proofs.YtaknladkodibaaaGreat
open Go.RowKit

end Go.Proofs.YtaknladkodibaaaGreat
/- Layer 8, plainly: each code is where the weights ahead of it end; no code begins another one. -/
namespace Go.Proofs.YtaknladkodibaaaGreat
open Go.RowKit

theorem ordL_ne (zs : List Int) : (ordL zs).Pairwise (· ≠ ·) := (whole_sorted zs 15).imp fun {a b} h e => by
  subst e
  unfold ltx at h
  omega
theorem ord_ne {zs : List Int} {i j s t : Nat} (hi : (ordL zs)[i]? = some s) (hj : (ordL zs)[j]? = some t) (hne : i ≠ j) : s ≠ t := by
  have h := List.pairwise_iff_getElem.1 (ordL_ne zs)
  obtain ⟨li, rfl⟩ := List.getElem?_eq_some_iff.1 hi
  obtain ⟨lj, rfl⟩ := List.getElem?_eq_some_iff.1 hj
  rcases Nat.lt_or_ge i j with h1 | h1
  · exact h i j li lj h1
  · exact (h j i lj li (by omega)).symm
/-- A symbol's code, weighed, is what stands ahead of it. -/
theorem val_of {zs : List Int} {k s n : Nat} (hk : (ordL zs)[k]? = some s) (hn : zs[s]? = some (n : Int)) : ∃ v : Nat, (caV zs)[s]? = some (v : Int) ∧ v * 2 ^ (15 - n) = osum zs ((ordL zs).take k) := by
  have hkl := (List.getElem?_eq_some_iff.1 hk).1
  obtain ⟨hvi, hle⟩ := vi_take zs k (by omega)
  obtain ⟨n', hn', hn1, hn15⟩ := whole_mem (mem_get hk)
  have e : n' = n := by rw [hn] at hn'; injection hn' with h; omega
  subst e
  have ha := hle s n' hk hn
  have hsl := (List.getElem?_eq_some_iff.1 hn).1
  obtain ⟨X, hX⟩ : ∃ X, vst zs ((ordL zs).take k) = X := ⟨_, rfl⟩
  rw [hX] at hvi ha
  obtain ⟨x, a, vs⟩ := X
  have hlen := hvi.len
  dsimp only at ha hlen
  refine ⟨x * 2 ^ (n' - a), ?_, hvi.val hn15 ha⟩
  have key : ∀ j, k + 1 ≤ j → j ≤ (ordL zs).length → (vst zs ((ordL zs).take j)).2.2[s]? = some ((x * 2 ^ (n' - a) : Nat) : Int) := by
    intro j
    induction j with
    | zero => intro h; omega
    | succ j ih =>
      intro h1 h2
      obtain ⟨t, ht⟩ : ∃ t, (ordL zs)[j]? = some t := ⟨_, List.getElem?_eq_getElem (by omega)⟩
      rw [take_snoc' ht, vst_snoc]
      by_cases hj : j = k
      · have e : t = s := by
          rw [hj, hk] at ht
          injection ht with ht
          exact ht.symm
        rw [e, hj, hX]
        show (vs.set s ((x * 2 ^ ((zs.getD s 0).toNat - a) : Nat) : Int))[s]? = _
        rw [getD_of hn, Int.toNat_natCast, List.getElem?_set_self (by omega)]
      · show ((vst zs ((ordL zs).take j)).2.2.set t _)[s]? = _
        rw [List.getElem?_set_ne (ord_ne ht hk hj)]
        exact ih (by omega) (by omega)
  have h := key (ordL zs).length (by omega) (Nat.le_refl _)
  rw [List.take_length] at h
  exact h
theorem filt_sum {α : Type} (p : α → Bool) (f : α → Nat) : ∀ L : List α, ((L.filter p).map f).sum = (L.map fun t => if p t = true then f t else 0).sum
  | [] => rfl
  | t :: L => by
    rw [List.map_cons, List.sum_cons, ← filt_sum p f L, List.filter_cons]
    split
    · rw [List.map_cons, List.sum_cons]
    · rw [Nat.zero_add]
theorem sum_add {α : Type} (f g h : α → Nat) : ∀ L : List α, (∀ t ∈ L, h t = f t + g t) → (L.map h).sum = (L.map f).sum + (L.map g).sum
  | [], _ => rfl
  | t :: L, hh => by
    rw [List.map_cons, List.map_cons, List.map_cons, List.sum_cons, List.sum_cons, List.sum_cons, sum_add f g h L (fun x hx => hh x (List.mem_cons_of_mem _ hx)), hh t (by simp)]
    omega
theorem sum_zero {α : Type} (f : α → Nat) : ∀ L : List α, (∀ t ∈ L, f t = 0) → (L.map f).sum = 0
  | [], _ => rfl
  | t :: L, h => by rw [List.map_cons, List.sum_cons, h t (by simp), sum_zero f L (fun x hx => h x (List.mem_cons_of_mem _ hx))]
theorem osum_append (zs : List Int) (a b : List Nat) : osum zs (a ++ b) = osum zs a + osum zs b := by simp [osum]
theorem osum_whole (zs : List Int) : ∀ m : Nat, osum zs (whole zs m) = ((List.range zs.length).map fun t => if 0 < zs.getD t 0 ∧ zs.getD t 0 ≤ (m : Int) then wt (zs.getD t 0) else 0).sum
  | 0 => by
    show 0 = _
    symm
    exact sum_zero _ _ (fun t _ => if_neg (by omega))
  | m + 1 => by
    rw [whole, osum_append, osum_whole zs m]
    unfold osum ixs
    rw [filt_sum]
    symm
    refine sum_add _ _ _ _ fun t ht => ?_
    rw [List.mem_range] at ht
    obtain ⟨x, hx⟩ : ∃ x, zs[t]? = some x := ⟨_, List.getElem?_eq_getElem ht⟩
    rw [getD_of hx, hx]
    by_cases h1 : x = ((m + 1 : Nat) : Int)
    · rw [if_pos (by omega), if_neg (by omega), if_pos (by rw [decide_eq_true_eq, h1]), Nat.zero_add]
    · rw [if_neg (c := decide (some x = some ((m + 1 : Nat) : Int)) = true) (by rw [decide_eq_true_eq]; intro e; injection e with e; exact h1 e)]
      by_cases h2 : 0 < x ∧ x ≤ (m : Int)
      · rw [if_pos h2, if_pos (by omega), Nat.add_zero]
      · rw [if_neg h2, if_neg (by omega)]
theorem map_range_getD (zs : List Int) (f : Int → Nat) : (zs.map f) = (List.range zs.length).map fun t => f (zs.getD t 0) := by
  apply List.ext_getElem?
  intro i
  rw [List.getElem?_map, List.getElem?_map]
  by_cases h : i < zs.length
  · rw [List.getElem?_range h, List.getElem?_eq_getElem h]
    simp [List.getD, h]
  · rw [List.getElem?_eq_none (by omega), List.getElem?_eq_none (by simpa using h)]
    rfl
theorem osum_all {zs : List Int} (h : ∀ x ∈ zs, lenB x = true) : osum zs (ordL zs) = wsum zs := by
  unfold ordL wsum
  rw [osum_whole, map_range_getD]
  congr 1
  apply List.map_congr_left
  intro t ht
  rw [List.mem_range] at ht
  obtain ⟨x, hx⟩ : ∃ x, zs[t]? = some x := ⟨_, List.getElem?_eq_getElem ht⟩
  have hb := lenB_yes (h x (List.mem_of_getElem? hx))
  rw [getD_of hx]
  split
  · rfl
  · rw [wt, if_neg (by omega)]
theorem wsum_zob : ∀ {zs : List Int}, zs.all zobB = true → (wsum zs : Int) = zs.sum * 16384
  | [], _ => rfl
  | x :: l, h => by
    rw [List.all_cons, Bool.and_eq_true] at h
    have ih := wsum_zob h.2
    have hx : x = 0 ∨ x = 1 := by simpa [zobB] using h.1
    unfold wsum at ih ⊢
    rw [List.map_cons, List.sum_cons, List.sum_cons]
    push_cast
    rw [ih]
    rcases hx with rfl | rfl
    · simp [wt]
    · have : wt 1 = 16384 := rfl
      rw [this]; omega
theorem caR_wsum {zs : List Int} (h : caR zs = true) : wsum zs ≤ 32768 := by
  unfold caR at h
  rw [Bool.and_eq_true, Bool.and_eq_true, Bool.or_eq_true, decide_eq_true_eq, decide_eq_true_eq, decide_eq_true_eq] at h
  rcases h.2 with h1 | h1
  · omega
  · have := wsum_zob (alone_iff h.1.2 h1)
    omega
theorem osum_mono (zs : List Int) (k : Nat) : osum zs ((ordL zs).take k) ≤ osum zs (ordL zs) := by
  have h := osum_append zs ((ordL zs).take k) ((ordL zs).drop k)
  rw [List.take_append_drop] at h
  omega
theorem osum_step {zs : List Int} {k s n : Nat} (hk : (ordL zs)[k]? = some s) (hn : zs[s]? = some (n : Int)) (h1 : 1 ≤ n) : osum zs ((ordL zs).take (k + 1)) = osum zs ((ordL zs).take k) + 2 ^ (15 - n) := by
  rw [take_snoc' hk, osum_snoc, getD_of hn, wt, if_pos (by omega), Int.toNat_natCast]
theorem osum_up (zs : List Int) {i j : Nat} (h : i ≤ j) : osum zs ((ordL zs).take i) ≤ osum zs ((ordL zs).take j) := by
  obtain ⟨d, rfl⟩ : ∃ d, j = i + d := ⟨j - i, by omega⟩
  rw [List.take_add, osum_append]
  omega
/-- A code is a number of as many bits as the symbol's length. -/
theorem val_lt {zs : List Int} (hr : caR zs = true) {k s n v : Nat} (hk : (ordL zs)[k]? = some s) (hn : zs[s]? = some (n : Int)) (h1 : 1 ≤ n) (h15 : n ≤ 15) (hv : v * 2 ^ (15 - n) = osum zs ((ordL zs).take k)) : v < 2 ^ n := by
  have h2 := osum_step hk hn h1
  have h3 := osum_mono zs (k + 1)
  rw [osum_all (caR_len hr).2] at h3
  have h4 := caR_wsum hr
  have h5 : (v + 1) * 2 ^ (15 - n) ≤ 2 ^ n * 2 ^ (15 - n) := by
    rw [← Nat.pow_add, show n + (15 - n) = 15 by omega, Nat.succ_mul, hv]
    have : (2 : Nat) ^ 15 = 32768 := by decide
    omega
  have h6 := Nat.le_of_mul_le_mul_right h5 (Nat.two_pow_pos (15 - n))
  omega
/-- Of a symbol: its length, its place in the order, its code. -/
structure Sym (zs : List Int) (s n v k : Nat) : Prop where
  at_ : (ordL zs)[k]? = some s
  len : zs[s]? = some (n : Int)
  one : 1 ≤ n
  few : n ≤ 15
  val : (caV zs)[s]? = some (v : Int)
  sum : v * 2 ^ (15 - n) = osum zs ((ordL zs).take k)
theorem sym_of {zs : List Int} {s n : Nat} (hn : zs[s]? = some (n : Int)) (h1 : 1 ≤ n) (h15 : n ≤ 15) : ∃ v k, Sym zs s n v k := by
  have hm := whole_has hn h1 h15
  obtain ⟨k, hk⟩ := List.mem_iff_getElem?.1 hm
  obtain ⟨v, hv, hs⟩ := val_of hk hn
  exact ⟨v, k, hk, hn, h1, h15, hv, hs⟩
theorem Sym.lt {zs : List Int} (hr : caR zs = true) {s n v k : Nat} (h : Sym zs s n v k) : v < 2 ^ n := val_lt hr h.at_ h.len h.one h.few h.sum
theorem Sym.place {zs : List Int} {s n v k s' n' v' k' : Nat} (h : Sym zs s n v k) (h' : Sym zs s' n' v' k') (hk : k < k') : (v + 1) * 2 ^ (15 - n) ≤ v' * 2 ^ (15 - n') := by
  rw [h'.sum, Nat.succ_mul, h.sum, ← osum_step h.at_ h.len h.one]
  exact osum_up zs hk
/-- No code begins another one. -/
theorem Sym.apart {zs : List Int} {s n v k s' n' v' k' : Nat} (h : Sym zs s n v k) (h' : Sym zs s' n' v' k') (hn : n ≤ n') (hv : v' / 2 ^ (n' - n) = v) : s = s' := by
  have hf := h'.few
  have e : (2 : Nat) ^ (15 - n) = 2 ^ (n' - n) * 2 ^ (15 - n') := by rw [← Nat.pow_add]; congr 1; omega
  have hp := Nat.two_pow_pos (n' - n)
  have hp2 := Nat.two_pow_pos (15 - n')
  have hq := Nat.div_add_mod v' (2 ^ (n' - n))
  have hm := Nat.mod_lt v' hp
  rw [hv] at hq
  rcases Nat.lt_trichotomy k k' with hk | hk | hk
  · have hpl := h.place h' hk
    rw [e, ← Nat.mul_assoc] at hpl
    have h3 := Nat.le_of_mul_le_mul_right hpl hp2
    rw [Nat.succ_mul, Nat.mul_comm v] at h3
    omega
  · subst hk
    have := h.at_.symm.trans h'.at_
    injection this
  · have hpl := h'.place h hk
    rw [e, ← Nat.mul_assoc] at hpl
    have h3 := Nat.le_of_mul_le_mul_right hpl hp2
    rw [Nat.mul_comm v] at h3
    omega
end Go.Proofs.YtaknladkodibaaaGreat
