/- Layer 11: the law TokensBack. -/
import Derived.Test.YtdlikfefndogbaaTxAll
namespace Go.Proofs.Ytdlikfefndogbaa
open Go.RowKit Go.Shelf

theorem ti_cells (L : List Tk) : (L.map ti).map tiC = L.map tkC := by rw [List.map_map]; rfl
set_option maxRecDepth 100000 in
set_option maxHeartbeats 4000000 in
theorem back_law (A : Option Addr) (l c : Nat) (bs : List UInt8) (lv : Int) (w : World) (hl : bs.length = l) (hcap : l ≤ c) (hb : Bytes w w.heap.size A bs) :
    Calls Try.prog 6 #[.slice A l c, .int .i64 lv] w fun e w' => e = .returned (.bool true) ∧ Below w.heap.size w w' := by
  have HLV := Lib.hid (fun W : World => lives11_any W)
  by_cases h0 : 3000 < l
  · have t0 : decide ((3000 : Int) < (l : Int)) = true := decide_eq_true (by omega)
    clear h0 hb
    go_enter Try.func6, Try.ntmps6
    go_wp2_with (go_at_call 7; refine (HLV.out _).mono ?_; rintro e w' ⟨rfl, hb2⟩; have HB2 := Lib.hid hb2; clear hb2)
    go_ret
    exact ⟨rfl, HB2.out⟩
  have t0 : decide ((3000 : Int) < (l : Int)) = false := decide_eq_false (by omega)
  have hl3 : l ≤ 3000 := by omega
  have HS1 := Lib.hid (split_any A l c bs lv w hl (by omega) hcap hb)
  have hlen := toks_len bs lv 0
  obtain ⟨L, hL⟩ : ∃ L, (toks bs lv 0).map ti = L := ⟨_, rfl⟩
  have hLl : (toks bs lv 0).length = L.length := by rw [← hL, List.length_map]
  have hLC : (toks bs lv 0).map tkC = L.map tiC := by rw [← hL, ti_cells]
  have hok := toks_ok bs lv bs.length 0 (by omega)
  have hsz := toks_size bs lv (by omega) bs.length 0 (by omega) (by omega)
  have hex := fun most => toks_exp bs lv most bs.length 0 (by omega) (by omega)
  rw [hL] at hok hsz
  rw [hL] at hex
  rw [hLl, hLC] at HS1
  rw [hLl] at hlen
  simp only [List.take_zero] at hex
  have HOK : Hid (∀ (k : Nat) (t : Ti), L[k]? = some t → okT t = true) := fun k t h => List.all_eq_true.1 hok t (List.mem_of_getElem? h)
  obtain ⟨m, hm⟩ : ∃ m, L.length = m := ⟨_, rfl⟩
  rw [hm] at HS1 hlen
  have HM := Lib.hid hm
  have HBW : Hid (∀ Z : World, Below w.heap.size w Z → Bytes Z Z.heap.size A bs) := fun Z hZ => (hb.below hZ (Nat.le_refl _)).more hZ.size
  have HL := Lib.hid hl
  have HSZ := Lib.hid (fun (A2 : Option Addr) (c2 : Nat) (Z : World) (hc : Cells Z Z.heap.size A2 (L.map tiC).flatten) => Size_any A2 m c2 L Z hm (by omega) hc)
  have hsz0 : sizeE L 0 = some (l : Int) := by rw [hl] at hsz; exact hsz
  rw [hsz0] at HSZ
  simp only [Option.getD_some, Option.isSome_some] at HSZ
  have HE1 := Lib.hid (fun (A2 : Option Addr) (c2 : Nat) (Z : World) (hc : Cells Z Z.heap.size A2 (L.map tiC).flatten) => Expand_any A2 m c2 L (l : Int) Z hm (by omega) (by omega) (by omega) hc)
  have HE2 := Lib.hid (fun (A2 : Option Addr) (c2 : Nat) (Z : World) (hc : Cells Z Z.heap.size A2 (L.map tiC).flatten) => Expand_any A2 m c2 L ((l : Int) - 1) Z hm (by omega) (by omega) (by omega) hc)
  have he1 : expE (l : Int) L [] = (0, bs) := by rw [hex, if_pos (.inl (by omega))]
  have he2 : expE ((l : Int) - 1) L [] = if l = 0 then (0, bs) else (5, []) := by
    rw [hex]
    by_cases hz : l = 0
    · rw [if_pos (.inr (by omega)), if_pos hz]
    · rw [if_neg (by omega), if_neg hz]
  rw [he1] at HE1
  simp only [hl] at HE1
  rw [he2] at HE2
  have hsub : IntKind.i64.wrap ((l : Int) - 1) = (l : Int) - 1 := IntWalk.i64_in _ (by omega)
  have hm3 : m ≤ 3000 := by omega
  clear hb hok hsz hex hL hLl hLC hm hl h0 hcap hsz0 he1 he2
  go_enter Try.func6, Try.ntmps6
  go_wp2_with (go_at_call 9; refine HS1.out.mono ?_; rintro e w2 ⟨A2, c2, rfl, hcs, hb2⟩; have HC2 := Lib.hid hcs; have HB2 := Lib.hid hb2; clear hcs hb2)
  go_loopg [6] m (fun gk s6 wr => ∃ k : Nat, k + gk = m ∧ s6 = .int .i64 (k : Int) ∧ Below w2.heap.size w2 wr)
  case atStart => exact ⟨0, by omega, rfl, Below.refl _ _⟩
  case round =>
    obtain ⟨k, hk, rfl, hbl⟩ := hrel
    have HBL := Lib.hid hbl
    clear hbl
    by_cases h : k < m
    · obtain ⟨t, ht⟩ : ∃ t, L[k]? = some t := ⟨_, List.getElem?_eq_getElem (by rw [HM.out]; exact h)⟩
      have HRI := Lib.hid (fun Z => Right_any t Z)
      rw [HOK.out k t ht] at HRI
      have hlt3 : k * 3 + 0 < (L.map tiC).flatten.length := (List.getElem?_eq_some_iff.1 (code_at (tiC_len L) ht (show (tiC t)[0]? = some (.int .u8 (t.1.toNat : Int)) from rfl))).1
      obtain ⟨b, o, rfl, hlt, hcc⟩ := HC2.out (by omega)
      have x0 : wr.cell? ⟨b, o + k * 3, none⟩ = some (.int .u8 (t.1.toNat : Int)) := (HBL.out.cell (p := ⟨b, o + k * 3, none⟩) hlt).trans (hcc (k * 3 + 0) _ (code_at (tiC_len L) ht rfl))
      have x1 : wr.cell? ⟨b, o + k * 3 + 1, none⟩ = some (.int .i64 t.2.1) := (HBL.out.cell (p := ⟨b, o + k * 3 + 1, none⟩) hlt).trans (hcc (k * 3 + 1) _ (code_at (tiC_len L) ht rfl))
      have x2 : wr.cell? ⟨b, o + k * 3 + 2, none⟩ = some (.int .i64 t.2.2) := (HBL.out.cell (p := ⟨b, o + k * 3 + 2, none⟩) hlt).trans (hcc (k * 3 + 2) _ (code_at (tiC_len L) ht rfl))
      obtain ⟨tb, tn, td⟩ := t
      simp only [tiV] at HRI x0 x1 x2
      clear hcc ht hlt3 hlt
      go_wp2_with (go_at_call 16; refine (HRI.out _).mono ?_; rintro e w5 ⟨rfl, hb5⟩; have HB5 := Lib.hid hb5; clear hb5)
      go_roundg (gk - 1)
      case measure => omega
      case rel => exact ⟨k + 1, by omega, by go_num, HBL.out.trans (HB5.out.mono HBL.out.size)⟩
    · obtain rfl : k = m := by omega
      have HBR : Hid (Below w.heap.size w wr) := HB2.out.trans (HBL.out.mono HB2.out.size)
      have HCR : Hid (∀ Z : World, Below wr.heap.size wr Z → Cells Z Z.heap.size A2 (L.map tiC).flatten) := fun Z hZ => (HC2.out.below (HBL.out.trans (hZ.mono HBL.out.size)) (Nat.le_refl _)).more (HBL.out.trans (hZ.mono HBL.out.size)).size
      by_cases hz : l = 0
      · have u0 : ((l : Int) == 0) = true := by simp [hz]
        have u0' : (l == 0) = true := by simp [hz]
        rw [if_pos hz] at HE2
        simp only [HL.out] at HE2
        clear hz
        go_wp2_with (first
          | (go_at_call 15; refine (HSZ.out _ _ _ (HCR.out _ (Below.refl _ _))).mono ?_; rintro e w6 ⟨rfl, hb6⟩; have HB6 := Lib.hid hb6; clear hb6)
          | (go_at_call 13; refine (HE1.out _ _ _ (HCR.out _ HB6.out)).mono ?_; clear HE1; rintro e w7 ⟨A7, c7, rfl, hy7, hb7⟩; have HY7 := Lib.hid hy7; have HB7 := Lib.hid (HB6.out.trans (hb7.mono HB6.out.size)); clear hb7 hy7)
          | (go_at_call 13; refine (HE2.out _ _ _ (HCR.out _ HB7.out)).mono ?_; rintro e w8 ⟨A8, c8, rfl, hy8, hb8⟩; have cv1 := run_string_of (P := Try.prog) (c := c7) 22 9 5 Try.underlying22 Try.underlying5 Try.underlying9 (HY7.out.below hb8 (Nat.le_refl _)) HL.out; have HB8 := Lib.hid (HB7.out.trans (hb8.mono HB7.out.size)); have cv2 := run_string_of (P := Try.prog) (c := c) 22 9 5 Try.underlying22 Try.underlying5 Try.underlying9 (HBW.out w8 (HBR.out.trans (HB8.out.mono HBR.out.size))) HL.out; clear hb8 hy8)
          | (go_at_call 7; refine (HLV.out _).mono ?_; rintro e w9 ⟨rfl, hb9⟩; have HB9 := Lib.hid hb9; clear hb9))
        go_ret
        exact ⟨rfl, HBR.out.trans ((HB8.out.trans (HB9.out.mono HB8.out.size)).mono HBR.out.size)⟩
      · have u0 : ((l : Int) == 0) = false := by simp; omega
        have u0' : (l == 0) = false := by simp; omega
        rw [if_neg hz] at HE2
        simp only [List.length_nil] at HE2
        clear hz
        go_wp2_with (first
          | (go_at_call 15; refine (HSZ.out _ _ _ (HCR.out _ (Below.refl _ _))).mono ?_; rintro e w6 ⟨rfl, hb6⟩; have HB6 := Lib.hid hb6; clear hb6)
          | (go_at_call 13; refine (HE1.out _ _ _ (HCR.out _ HB6.out)).mono ?_; clear HE1; rintro e w7 ⟨A7, c7, rfl, hy7, hb7⟩; have HY7 := Lib.hid hy7; have HB7 := Lib.hid (HB6.out.trans (hb7.mono HB6.out.size)); clear hb7 hy7)
          | (go_at_call 13; refine (HE2.out _ _ _ (HCR.out _ HB7.out)).mono ?_; rintro e w8 ⟨A8, c8, rfl, hy8, hb8⟩; have cv1 := run_string_of (P := Try.prog) (c := c7) 22 9 5 Try.underlying22 Try.underlying5 Try.underlying9 (HY7.out.below hb8 (Nat.le_refl _)) HL.out; have HB8 := Lib.hid (HB7.out.trans (hb8.mono HB7.out.size)); have cv2 := run_string_of (P := Try.prog) (c := c) 22 9 5 Try.underlying22 Try.underlying5 Try.underlying9 (HBW.out w8 (HBR.out.trans (HB8.out.mono HBR.out.size))) HL.out; clear hb8 hy8)
          | (go_at_call 7; refine (HLV.out _).mono ?_; rintro e w9 ⟨rfl, hb9⟩; have HB9 := Lib.hid hb9; clear hb9))
        go_ret
        exact ⟨rfl, HBR.out.trans ((HB8.out.trans (HB9.out.mono HB8.out.size)).mono HBR.out.size)⟩
end Go.Proofs.Ytdlikfefndogbaa
