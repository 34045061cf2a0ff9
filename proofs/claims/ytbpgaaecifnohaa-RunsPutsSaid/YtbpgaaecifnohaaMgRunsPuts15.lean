/- Layer 8: a code in memory: New. -/
import Derived.Test.YtbpgaaecifnohaaMgRunsPuts14
namespace Go.Proofs.Ytbpgaaecifnohaa
open Go.RowKit

/-- How many symbols of a list have each length. -/
def cntN (zs : List Int) (os : List Nat) (n : Nat) : Nat := (os.filter fun s => decide (zs.getD s 0 = (n : Int))).length
def cntL (zs : List Int) (os : List Nat) : List Int := (List.range 16).map fun n => (cntN zs os n : Int)
/-- .. of the lengths up to one, from 0 up to k. -/
def mixL (zs : List Int) (k : Nat) : List Int := (List.range 16).map fun n => if n < k then ((whole zs n).length : Int) else (cntN zs (ordL zs) n : Int)
def endsL (zs : List Int) : List Int := (List.range 16).map fun n => ((whole zs n).length : Int)
theorem cntN_snoc (zs : List Int) (os : List Nat) (s n : Nat) : cntN zs (os ++ [s]) n = cntN zs os n + (if zs.getD s 0 = (n : Int) then 1 else 0) := by
  unfold cntN
  rw [List.filter_append, List.length_append]
  congr 1
  show (match decide (zs.getD s 0 = (n : Int)) with | true => [s] | false => []).length = _
  by_cases h : zs.getD s 0 = (n : Int)
  · rw [decide_eq_true h, if_pos h]; rfl
  · rw [decide_eq_false h, if_neg h]; rfl
theorem range_map_get {f : Nat → Int} {i : Nat} (h : i < 16) : ((List.range 16).map f)[i]? = some (f i) := by
  rw [List.getElem?_map, List.getElem?_range h]; rfl
theorem range_map_set (f g : Nat → Int) (i : Nat) (y : Int) (hi : g i = y) (ho : ∀ j, j ≠ i → g j = f j) : ((List.range 16).map f).set i y = (List.range 16).map g := by
  apply List.ext_getElem?
  intro j
  rw [List.getElem?_set]
  by_cases h : i = j
  · subst h
    rw [if_pos rfl]
    by_cases h16 : i < 16
    · rw [if_pos (by simpa using h16), range_map_get h16, hi]
    · rw [if_neg (by simpa using h16), List.getElem?_eq_none (by simpa using h16)]
  · rw [if_neg h]
    by_cases h16 : j < 16
    · rw [range_map_get h16, range_map_get h16, ho j (by omega)]
    · rw [List.getElem?_eq_none (by simpa using h16), List.getElem?_eq_none (by simpa using h16)]
theorem cntL_snoc {zs : List Int} {os : List Nat} {s n : Nat} (hs : zs[s]? = some (n : Int)) : (cntL zs os).set n ((cntN zs os n : Int) + 1) = cntL zs (os ++ [s]) := by
  unfold cntL
  refine range_map_set _ _ _ _ ?_ (fun j hj => ?_)
  · show ((cntN zs (os ++ [s]) n : Nat) : Int) = _
    rw [cntN_snoc, getD_of hs, if_pos rfl]
    omega
  · show ((cntN zs (os ++ [s]) j : Nat) : Int) = _
    rw [cntN_snoc, getD_of hs, if_neg (by omega)]
    rfl
theorem cnt_whole (zs : List Int) (n : Nat) (h1 : 1 ≤ n) : ∀ m, cntN zs (whole zs m) n = if n ≤ m then (ixs zs n zs.length).length else 0
  | 0 => by rw [if_neg (by omega)]; rfl
  | m + 1 => by
    have ih := cnt_whole zs n h1 m
    have key : cntN zs (ixs zs (m + 1) zs.length) n = if n = m + 1 then (ixs zs n zs.length).length else 0 := by
      unfold cntN
      by_cases e : n = m + 1
      · subst e
        rw [if_pos rfl, List.filter_eq_self.2]
        intro s hs
        simp only [ixs, List.mem_filter, decide_eq_true_eq] at hs
        exact decide_eq_true (getD_of hs.2)
      · rw [if_neg e, List.filter_eq_nil_iff.2]
        · rfl
        · intro s hs
          simp only [ixs, List.mem_filter, decide_eq_true_eq] at hs
          rw [decide_eq_true_eq, getD_of hs.2]
          omega
    have hadd : cntN zs (whole zs (m + 1)) n = cntN zs (whole zs m) n + cntN zs (ixs zs (m + 1) zs.length) n := by
      unfold cntN
      rw [whole, List.filter_append, List.length_append]
    rw [hadd, ih, key]
    by_cases h2 : n ≤ m
    · rw [if_pos h2, if_neg (by omega), if_pos (by omega), Nat.add_zero]
    · by_cases h3 : n = m + 1
      · rw [if_neg h2, if_pos h3, if_pos (by omega), Nat.zero_add]
      · rw [if_neg h2, if_neg h3, if_neg (by omega)]
theorem mixL_start (zs : List Int) : mixL zs 1 = cntL zs (ordL zs) := by
  unfold mixL cntL
  apply List.map_congr_left
  intro n _
  by_cases h : n < 1
  · obtain rfl : n = 0 := by omega
    rw [if_pos (by omega)]
    have : cntN zs (ordL zs) 0 = 0 := by
      unfold cntN
      rw [List.filter_eq_nil_iff.2]
      · rfl
      · intro s hs
        obtain ⟨n, h1, h2, _⟩ := whole_mem hs
        rw [decide_eq_true_eq, getD_of h1]
        omega
    rw [this]
    rfl
  · rw [if_neg h]
theorem mixL_end (zs : List Int) : mixL zs 16 = endsL zs := by
  unfold mixL endsL
  apply List.map_congr_left
  intro n hn
  rw [List.mem_range] at hn
  rw [if_pos hn]
theorem mixL_step (zs : List Int) (k : Nat) (h1 : 1 ≤ k) (h15 : k ≤ 15) : (mixL zs k).set k ((cntN zs (ordL zs) k : Int) + ((whole zs (k - 1)).length : Int)) = mixL zs (k + 1) := by
  unfold mixL
  refine range_map_set _ _ _ _ ?_ (fun j hj => ?_)
  · show (if k < k + 1 then ((whole zs k).length : Int) else _) = _
    rw [if_pos (by omega)]
    have h2 := cnt_whole zs k h1 15
    rw [if_pos h15] at h2
    obtain ⟨m, rfl⟩ : ∃ m, k = m + 1 := ⟨k - 1, by omega⟩
    unfold ordL
    rw [h2, whole, List.length_append, Nat.add_sub_cancel]
    omega
  · show (if j < k + 1 then ((whole zs j).length : Int) else _) = (if j < k then ((whole zs j).length : Int) else _)
    by_cases h : j < k
    · rw [if_pos h, if_pos (by omega)]
    · rw [if_neg h, if_neg (by omega)]

/-- A code's block: its slices and longest, and the ends. -/
def CB (w : World) (g : Nat) (v1 v2 v3 v4 : Value) (es : List Int) : Prop := w.heap[g]? = some (.cells ([v1, v2, v3, v4] ++ es.map ic).toArray 101 (0, 0))
theorem cb_end {w : World} {g : Nat} {v1 v2 v3 v4 : Value} {es : List Int} {i : Nat} {x : Int} (h : CB w g v1 v2 v3 v4 es) (hx : es[i]? = some x) : w.cell? ⟨g, 4 + i, none⟩ = some (.int .i64 x) := by
  rw [cell_of_row w g (4 + i) _ _ _ h]
  rw [List.getElem?_toArray, List.getElem?_append_right (by simp)]
  simp [hx, ic]
theorem cb_pre {w : World} {g : Nat} {v1 v2 v3 v4 : Value} {es : List Int} (h : CB w g v1 v2 v3 v4 es) :
    w.cell? ⟨g, 0, none⟩ = some v1 ∧ w.cell? ⟨g, 1, none⟩ = some v2 ∧ w.cell? ⟨g, 2, none⟩ = some v3 ∧ w.cell? ⟨g, 3, none⟩ = some v4 := by
  refine ⟨?_, ?_, ?_, ?_⟩ <;> rw [cell_of_row w g _ _ _ _ h] <;> rfl
theorem cb_free {w : World} {g : Nat} {v1 v2 v3 v4 : Value} {es : List Int} (h : CB w g v1 v2 v3 v4 es) (i : Nat) : w.frozen? ⟨g, i, none⟩ = false := frozen_of_row w g i _ _ h
theorem cb_set {w : World} {g : Nat} {v1 v2 v3 v4 : Value} {es : List Int} (h : CB w g v1 v2 v3 v4 es) (i : Nat) (y : Int) : CB (w.setCell ⟨g, 4 + i, none⟩ (.int .i64 y)) g v1 v2 v3 v4 (es.set i y) := by
  unfold CB
  rw [heap_setCell_same w g (4 + i) _ _ _ h, List.setIfInBounds_toArray]
  congr 3
  rw [List.set_append_right _ _ (by simp), List.map_set]
  simp [ic]
theorem cb_lt {w : World} {g : Nat} {v1 v2 v3 v4 : Value} {es : List Int} (h : CB w g v1 v2 v3 v4 es) : g < w.heap.size := (Array.getElem?_eq_some_iff.1 h).1
/-- A code in memory: of lengths that may be one. -/
def LC (w : World) (g : Nat) (zs : List Int) : Prop := ∃ (A1 A2 A3 : Option Addr) (c1 c2 c3 : Nat) (m : Int), CB w g (.slice A1 zs.length c1) (.slice A2 zs.length c2) (.int .i64 m) (.slice A3 (ordL zs).length c3) (endsL zs) ∧
  isMax zs m ∧ Cells w g A1 (zs.map ic) ∧ Cells w g A2 ((caV zs).map ic) ∧ Cells w g A3 ((ordL zs).map nc)
/-- A code in memory all of whose blocks lie from n on. -/
def LCa (w : World) (n g : Nat) (zs : List Int) : Prop := ∃ (A1 A2 A3 : Option Addr) (c1 c2 c3 : Nat) (m : Int), CB w g (.slice A1 zs.length c1) (.slice A2 zs.length c2) (.int .i64 m) (.slice A3 (ordL zs).length c3) (endsL zs) ∧
  isMax zs m ∧ Cells w g A1 (zs.map ic) ∧ Cells w g A2 ((caV zs).map ic) ∧ Cells w g A3 ((ordL zs).map nc) ∧ n ≤ g ∧ ∀ a, A1 = some a ∨ A2 = some a ∨ A3 = some a → n ≤ a.block
theorem LCa.lc {w : World} {n g : Nat} {zs : List Int} (h : LCa w n g zs) : LC w g zs := by
  obtain ⟨A1, A2, A3, c1, c2, c3, m, h1, h2, h3, h4, h5, _, _⟩ := h
  exact ⟨A1, A2, A3, c1, c2, c3, m, h1, h2, h3, h4, h5⟩
set_option maxHeartbeats 1000000 in
theorem new_no (A : Option Addr) (l c : Nat) (zs : List Int) (B : Nat) (w : World) (hl : zs.length = l) (hm : l ≤ 9223372036854775807) (hb : Cells w B A (zs.map ic)) (hr : caR zs = false) :
    Calls Try.prog 26 #[.slice A l c] w fun e w' => e = .returned (.tuple #[.pointer none, .int .i64 13]) ∧ w = w' := by
  have HV := Lib.hid (values_no A l c zs B w hl hm hb hr)
  clear hr hb hl
  go_enter Try.func26, Try.ntmps26
  go_wp2_with (go_at_call 55; refine HV.out.mono ?_; rintro e w' ⟨rfl, rfl⟩)
  go_ret2
  exact ⟨rfl, rfl⟩
set_option maxHeartbeats 1000000 in
theorem new_low (A : Option Addr) (l c : Nat) (zs : List Int) (B : Nat) (w : World) (hl : zs.length = l) (hm : l ≤ 1000) (hb : Cells w B A (zs.map ic)) (hB : B ≤ w.heap.size) (hr : caR zs = true) :
    Calls Try.prog 26 #[.slice A l c] w fun e w' => ∃ g, e = .returned (.tuple #[.pointer (some ⟨g, 0, none⟩), .int .i64 0]) ∧ LCa w' w.heap.size g zs ∧ Below w.heap.size w w' := by
  have hl1 : 1 ≤ l := by
    rcases Nat.eq_zero_or_pos l with h | h
    · rw [h] at hl
      rw [List.eq_nil_of_length_eq_zero hl, caR_empty] at hr
      cases hr
    · exact h
  have HV := Lib.hid (values_any A l c zs B w hl hm hb hB hr)
  have HC := Lib.hid (hb.more hB)
  have HL := Lib.hid hl
  clear hr hb hl
  go_enter Try.func26, Try.ntmps26
  go_wp2_with (first | (go_at_call 55; refine HV.out.mono ?_; rintro e w1 ⟨rfl, hib, hb1⟩; have HIB := Lib.hid hib; have HB1 := Lib.hid hb1; have HS1 := Lib.hid (ib_lt hib); have HC1 := Lib.hid (HC.out.below hb1 (Nat.le_refl _)); have HCL := Lib.hid (clone8_any A l c zs _ w1 HL.out hl1 hm HC1.out hb1.size); clear HV hib hb1) | (go_at_call 56; refine HCL.out.mono ?_; rintro e w2 ⟨A2, c2, rfl, ho2, hb2⟩; have HO2 := Lib.hid ho2; have HB2 := Lib.hid hb2; have HC2 := Lib.hid (HC1.out.below hb2 HB1.out.size); have HLO := Lib.hid (longest_any A l c zs _ w2 HL.out hl1 (by omega) HC2.out); clear HCL ho2 hb2) | (go_at_call 57; refine HLO.out.mono ?_; rintro e w' ⟨mx, rfl, hmx, rfl⟩; have HMX := Lib.hid hmx; have HOR := Lib.hid (order_any A l c zs _ w2 HL.out hm HC2.out (Nat.le_trans HB1.out.size HB2.out.size)); clear HLO hmx) | (go_at_call 58; refine HOR.out.mono ?_; rintro e w3 ⟨A3, c3, rfl, ho3, hb3⟩; have HO3 := Lib.hid ho3; have HB3 := Lib.hid hb3; clear HOR ho3 hb3))
  have HOc : Hid (Cells w3 w3.heap.size A3 ((ordL zs).map nc)) := Cells.of_own HO3.out
  have HZc : Hid (Cells w3 w3.heap.size A (zs.map ic)) := ((HC2.out.below HB3.out (Nat.le_trans HB1.out.size HB2.out.size)).more (Nat.le_trans (Nat.le_trans HB1.out.size HB2.out.size) HB3.out.size))
  have HKc : Hid (Cells w3 w3.heap.size A2 (zs.map ic)) := ((Cells.of_own HO2.out).below HB3.out (Nat.le_refl _)).more HB3.out.size
  have HVc : Hid (Cells w3 w3.heap.size (some ⟨w.heap.size, 0, none⟩) ((caV zs).map ic)) := (((ib_cells HIB.out HS1.out).below HB2.out (Nat.le_refl _)).below HB3.out HB2.out.size).more (Nat.le_trans HB2.out.size HB3.out.size)
  have HBE : Hid (Below w.heap.size w w3) := (HB1.out.trans (HB2.out.mono HB1.out.size)).trans (HB3.out.mono (Nat.le_trans HB1.out.size HB2.out.size))
  have HOL : Hid ((ordL zs).length ≤ 15000) := by
    have := whole_len zs 15
    have := HL.out
    show (whole zs 15).length ≤ _
    omega
  go_loopg [32] (ordL zs).length (fun gk i wr => ∃ k : Nat, k + gk = (ordL zs).length ∧ i = .int .i64 k ∧ CB wr w3.heap.size (.slice A2 l c2) (.slice (some ⟨w.heap.size, 0, none⟩) l l) (.int .i64 mx) (.slice A3 (ordL zs).length c3) (cntL zs ((ordL zs).take k)) ∧ Below w3.heap.size w3 wr)
  case atStart => exact ⟨0, by omega, rfl, heap_alloc_new w3 _, (Below.refl _ w3).alloc (Nat.le_refl _) _⟩
  case round =>
    obtain ⟨k, hk, rfl, hcb, hbe⟩ := hrel
    have hol := HOL.out
    by_cases h : k < (ordL zs).length
    · obtain ⟨s, hs⟩ : ∃ s, (ordL zs)[k]? = some s := ⟨_, List.getElem?_eq_getElem h⟩
      obtain ⟨n, hn, hn1, hn15⟩ := whole_mem (mem_get hs)
      obtain ⟨b2, o2, rfl, hb2, hc2⟩ := (HOc.out.below hbe (Nat.le_refl _)) (by rw [List.length_map]; omega)
      have c1 : wr.cell? ⟨b2, o2 + k, none⟩ = some (.int .i64 (s : Int)) := hc2 k _ (by rw [List.getElem?_map, hs]; rfl)
      obtain ⟨b, o, rfl, hb3, hc3⟩ := (HZc.out.below hbe (Nat.le_refl _)) (by rw [List.length_map, HL.out]; omega)
      have c0 : wr.cell? ⟨b, o + s, none⟩ = some (.int .i64 (n : Int)) := hc3 s _ (by rw [List.getElem?_map, hn]; rfl)
      have hsl : s < l := by have := (List.getElem?_eq_some_iff.1 hn).1; have := HL.out; omega
      have ce := cb_end (i := n) hcb (range_map_get (by omega))
      have hf := cb_free hcb (4 + n)
      have HCB := Lib.hid hcb
      have HBW := Lib.hid hbe
      have HS : Hid ((cntL zs ((ordL zs).take k)).set n ((cntN zs ((ordL zs).take k) n : Int) + 1) = cntL zs ((ordL zs).take (k + 1))) := by show _ = _; rw [cntL_snoc hn, take_snoc' hs]
      have hcnt : cntN zs ((ordL zs).take k) n ≤ 15000 := Nat.le_trans (List.length_filter_le _ _) (by rw [List.length_take]; omega)
      clear hc2 hc3 hs hn hcb hbe
      generalize cntN zs ((ordL zs).take k) n = cn at *
      go_upto_region 8 with (fail)
      go_region
      go_wp2
      go_roundg (gk - 1)
      case measure => omega
      case rel => exact ⟨k + 1, by omega, by go_num, by rw [← HS.out]; exact cb_set HCB.out n _, (HBW.out.setCell (Nat.le_refl _) _).drew⟩
    · obtain rfl : k = (ordL zs).length := by omega
      rw [List.take_length, ← mixL_start] at hcb
      have HCB := Lib.hid hcb
      have HBW := Lib.hid hbe
      clear hcb hbe
      go_wp2
      go_loopg [9] 15 (fun gk i wr => ∃ k : Nat, k + gk = 15 ∧ i = .int .i64 ((k : Int) + 1) ∧ CB wr w3.heap.size (.slice A2 l c2) (.slice (some ⟨w.heap.size, 0, none⟩) l l) (.int .i64 mx) (.slice A3 (ordL zs).length c3) (mixL zs (k + 1)) ∧ Below w3.heap.size w3 wr)
      case atStart => exact ⟨0, by omega, rfl, HCB.out, HBW.out⟩
      case round =>
        clear HCB HBW
        obtain ⟨k, hk, rfl, hcb, hbe⟩ := hrel
        by_cases h : k < 15
        · have ce := cb_end (i := k + 1) hcb (range_map_get (by omega))
          have cp := cb_end (i := k) hcb (range_map_get (by omega))
          rw [if_neg (by omega)] at ce
          rw [if_pos (by omega)] at cp
          have hf := cb_free hcb (4 + (k + 1))
          have HCB := Lib.hid hcb
          have HBW := Lib.hid hbe
          have HS := Lib.hid (mixL_step zs (k + 1) (by omega) (by omega))
          rw [Nat.add_sub_cancel] at HS
          have hcnt : cntN zs (ordL zs) (k + 1) ≤ 15000 := Nat.le_trans (List.length_filter_le _ _) (by omega)
          have hwl : (whole zs k).length ≤ 15000 := by
            have := whole_len zs k
            have := HL.out
            have : k * zs.length ≤ 15 * zs.length := Nat.mul_le_mul_right _ (by omega)
            omega
          clear hcb hbe
          generalize cntN zs (ordL zs) (k + 1) = cn at *
          generalize (whole zs k).length = wn at *
          have hd : decide ((k : Int) + 1 < 16) = true := by simp; omega
          go_upto_region 13 with (fail)
          go_region
          go_wp2
          go_roundg (gk - 1)
          case measure => omega
          case rel => exact ⟨k + 1, by omega, by go_num, by rw [← HS.out]; exact cb_set HCB.out (k + 1) _, (HBW.out.setCell (Nat.le_refl _) _).drew⟩
        · obtain rfl : k = 15 := by omega
          rw [mixL_end] at hcb
          go_wp2
          go_ret2
          refine ⟨w3.heap.size, rfl, ⟨A2, some ⟨w.heap.size, 0, none⟩, A3, c2, l, c3, mx, by rw [HL.out]; exact hcb, HMX.out, HKc.out.below hbe (Nat.le_refl _), HVc.out.below hbe (Nat.le_refl _), HOc.out.below hbe (Nat.le_refl _), HBE.out.size, fun a ha => ?_⟩, HBE.out.trans (hbe.mono HBE.out.size)⟩
          rcases ha with rfl | ha | rfl
          · exact Nat.le_trans HB1.out.size (own_base HO2.out _ rfl)
          · cases ha
            exact Nat.le_refl _
          · exact Nat.le_trans (Nat.le_trans HB1.out.size HB2.out.size) (own_base HO3.out _ rfl)
theorem new_any (A : Option Addr) (l c : Nat) (zs : List Int) (B : Nat) (w : World) (hl : zs.length = l) (hm : l ≤ 1000) (hb : Cells w B A (zs.map ic)) (hB : B ≤ w.heap.size) (hr : caR zs = true) :
    Calls Try.prog 26 #[.slice A l c] w fun e w' => ∃ g, e = .returned (.tuple #[.pointer (some ⟨g, 0, none⟩), .int .i64 0]) ∧ LC w' g zs ∧ w.heap.size ≤ g ∧ Below w.heap.size w w' :=
  (new_low A l c zs B w hl hm hb hB hr).mono fun _ _ ⟨g, h1, h2, h3⟩ => ⟨g, h1, h2.lc, by obtain ⟨_, _, _, _, _, _, _, _, _, _, _, _, h, _⟩ := h2; exact h, h3⟩
end Go.Proofs.Ytbpgaaecifnohaa
/- Layer 8: CanonValues. -/
namespace Go.Proofs.Ytbpgaaecifnohaa
open Go.RowKit

def posN (zs : List Int) (k : Nat) : Nat := ((List.range k).filter fun t => decide (0 < zs.getD t 0)).length
theorem posN_yes {zs : List Int} {k : Nat} {x : Int} (h : zs[k]? = some x) (hx : 0 < x) : posN zs (k + 1) = posN zs k + 1 := by
  unfold posN
  rw [List.range_succ, List.filter_append, List.length_append]
  congr 1
  show (match decide (0 < zs.getD k 0) with | true => [k] | false => []).length = _
  rw [decide_eq_true (by rw [getD_of h]; exact hx)]
  rfl
theorem posN_no {zs : List Int} {k : Nat} {x : Int} (h : zs[k]? = some x) (hx : ¬ 0 < x) : posN zs (k + 1) = posN zs k := by
  unfold posN
  rw [List.range_succ, List.filter_append, List.length_append]
  show _ + (match decide (0 < zs.getD k 0) with | true => [k] | false => []).length = _
  rw [decide_eq_false (by rw [getD_of h]; exact hx)]
  rfl
theorem posN_le (zs : List Int) (k : Nat) : posN zs k ≤ k := Nat.le_trans (List.length_filter_le _ _) (by simp)
theorem filt_add {α : Type} (p q r : α → Bool) : ∀ L : List α, (∀ t ∈ L, r t = (p t || q t) ∧ (p t && q t) = false) → (L.filter r).length = (L.filter p).length + (L.filter q).length
  | [], _ => rfl
  | t :: L, h => by
    have ih := filt_add p q r L (fun x hx => h x (List.mem_cons_of_mem _ hx))
    obtain ⟨h1, h2⟩ := h t (by simp)
    simp only [List.filter_cons]
    cases hp : p t <;> cases hq : q t <;> rw [hp, hq] at h1 h2 <;> simp_all <;> omega
theorem whole_count (zs : List Int) : ∀ m : Nat, (whole zs m).length = ((List.range zs.length).filter fun t => decide (0 < zs.getD t 0 ∧ zs.getD t 0 ≤ (m : Int))).length
  | 0 => by
    rw [List.filter_eq_nil_iff.2]
    · rfl
    · intro t _
      rw [decide_eq_true_eq]
      omega
  | m + 1 => by
    rw [whole, List.length_append, whole_count zs m]
    unfold ixs
    symm
    refine filt_add _ _ _ _ fun t ht => ?_
    rw [List.mem_range] at ht
    obtain ⟨x, hx⟩ : ∃ x, zs[t]? = some x := ⟨_, List.getElem?_eq_getElem ht⟩
    rw [getD_of hx, hx]
    constructor
    · rw [Bool.eq_iff_iff]; simp; omega
    · rw [Bool.eq_false_iff]; simp; omega
theorem posN_all {zs : List Int} (h : ∀ x ∈ zs, lenB x = true) : posN zs zs.length = (ordL zs).length := by
  unfold posN ordL
  rw [whole_count]
  congr 1
  apply List.filter_congr
  intro t ht
  rw [List.mem_range] at ht
  obtain ⟨x, hx⟩ : ∃ x, zs[t]? = some x := ⟨_, List.getElem?_eq_getElem ht⟩
  have := lenB_yes (h x (List.mem_of_getElem? hx))
  rw [getD_of hx, Bool.eq_iff_iff]
  simp
  omega
theorem caR_len {zs : List Int} (h : caR zs = true) : zs.length ≤ 320 ∧ ∀ x ∈ zs, lenB x = true := by
  unfold caR at h
  rw [Bool.and_eq_true, Bool.and_eq_true, decide_eq_true_eq, List.all_eq_true] at h
  exact h.1
theorem LC.below {w w' : World} {g : Nat} {zs : List Int} (h : LC w g zs) (hb : Below w.heap.size w w') : LC w' g zs := by
  obtain ⟨A1, A2, A3, c1, c2, c3, m, hcb, hmx, h1, h2, h3⟩ := h
  have hg := cb_lt hcb
  exact ⟨A1, A2, A3, c1, c2, c3, m, (by unfold CB; rw [hb.block g hg]; exact hcb), hmx, h1.below (hb.mono (Nat.le_of_lt hg)) (Nat.le_refl _), h2.below (hb.mono (Nat.le_of_lt hg)) (Nat.le_refl _), h3.below (hb.mono (Nat.le_of_lt hg)) (Nat.le_refl _)⟩
theorem LC.drewN {w : World} {g : Nat} {zs : List Int} (h : LC w g zs) (n : Nat) : LC (w.drewN n) g zs := h
theorem Below.drewN {B : Nat} {a w : World} (h : Below B a w) (n : Nat) : Below B a (w.drewN n) := ⟨h.os, h.tape, h.output, h.size, h.block⟩
/-- A symbol's length: none for one that there isn't. -/
def lenAt (zs : List Int) (s : Int) : Int := if 0 ≤ s then zs.getD s.toNat 0 else 0

set_option maxHeartbeats 400000 in
theorem len_any (g : Nat) (zs : List Int) (s : Int) (w : World) (h : LC w g zs) (hm : zs.length ≤ 1000) :
    Calls Try.prog 59 #[.pointer (some ⟨g, 0, none⟩), .int .i64 s] w fun e w' => e = .returned (.int .i64 (lenAt zs s)) ∧ w = w' := by
  obtain ⟨A1, A2, A3, c1, c2, c3, m, hcb, hmx, hc, hr⟩ := h
  obtain ⟨p0, p1, p2, p3⟩ := cb_pre hcb
  clear hcb hr hmx p1 p2 p3
  by_cases h0 : 0 ≤ s
  · by_cases hl : s < zs.length
    · obtain ⟨k, rfl⟩ := Int.eq_ofNat_of_zero_le h0
      obtain ⟨x, hx⟩ : ∃ x, zs[k]? = some x := ⟨_, List.getElem?_eq_getElem (by omega)⟩
      obtain ⟨b, o, rfl, hb, hc2⟩ := hc (by rw [List.length_map]; omega)
      have c0 : w.cell? ⟨b, o + k, none⟩ = some (.int .i64 x) := hc2 k _ (by rw [List.getElem?_map, hx]; rfl)
      have HF : Hid (lenAt zs (k : Int) = x) := by show _ = _; rw [lenAt, if_pos (by omega), Int.toNat_natCast, getD_of hx]
      have hd : decide ((k : Int) < 0) = false := by simp
      have hd2 : decide ((zs.length : Int) ≤ (k : Int)) = false := by simp; omega
      clear hc hc2 hx h0
      go_enter Try.func59, Try.ntmps59
      go_wp2
      go_ret
      exact ⟨by rw [HF.out]; rfl, rfl⟩
    · have HF : Hid (lenAt zs s = 0) := by
        show _ = _
        rw [lenAt, if_pos h0, List.getD, List.getElem?_eq_none (by omega)]; rfl
      have hd2 : decide ((zs.length : Int) ≤ s) = true := by simp; omega
      have hd : decide (s < 0) = false := by simp; omega
      clear hl hc
      go_enter Try.func59, Try.ntmps59
      go_wp2
      go_ret
      exact ⟨by rw [HF.out]; rfl, rfl⟩
  · have HF : Hid (lenAt zs s = 0) := by
      show _ = _
      rw [lenAt, if_neg h0]
    have hd : decide (s < 0) = true := by simp; omega
    clear h0 hc
    go_enter Try.func59, Try.ntmps59
    go_wp2
    go_ret
    exact ⟨by rw [HF.out]; rfl, rfl⟩
end Go.Proofs.Ytbpgaaecifnohaa
