/- Layer 11: the law TokensExpands. -/
import Derived.Test.YtdlikfefndogbaaTxRef
import Derived.Test.YtdlikfefndogbaaQuietF
namespace Go.Proofs.Ytdlikfefndogbaa
open Go.RowKit Go.Shelf

theorem all_snoc (t : Ti) (L : List Ti) : (L ++ [t]).all okT = (L.all okT && okT t) := by simp
theorem take_snocT {L : List Ti} {k : Nat} {t : Ti} (h : L[k]? = some t) : L.take (k + 1) = L.take k ++ [t] := by rw [List.take_add_one, h]; rfl
set_option maxRecDepth 100000 in
set_option maxHeartbeats 1000000 in
theorem expands_law (A : Option Addr) (l c : Nat) (L : List Ti) (most : Int) (w : World) (hl : L.length = l) (hm1 : -9223372036854775808 ≤ most) (hm2 : most ≤ 9223372036854775807) (hc : Cells w w.heap.size A (L.map tiC).flatten) :
    Calls Try.prog 4 #[.slice A l c, .int .i64 most] w fun e w' => e = .returned (.bool true) ∧ Below w.heap.size w w' := by
  have HLV := Lib.hid (fun W : World => lives11_any W)
  by_cases h0 : 100 < l
  · have t0 : decide ((100 : Int) < (l : Int)) = true := decide_eq_true (by omega)
    clear h0 hc
    go_enter Try.func4, Try.ntmps4
    go_wp2_with (go_at_call 7; refine (HLV.out _).mono ?_; rintro e w' ⟨rfl, hb2⟩; have HB2 := Lib.hid hb2; clear hb2)
    go_ret
    exact ⟨rfl, HB2.out⟩
  have t0 : decide ((100 : Int) < (l : Int)) = false := decide_eq_false (by omega)
  have hl2 : l ≤ 100 := by omega
  have HC := Lib.hid hc
  have HL := Lib.hid hl
  have HE1 := Lib.hid (Expand_any A l c L most w hl (by omega) hm1 hm2 hc)
  have HE2 := Lib.hid (fun (Z : World) (h : Below w.heap.size w Z) => rExpand_any A l c L most Z hl (by omega) hm1 hm2 ((hc.below h (Nat.le_refl _)).more h.size))
  have HSZ := Lib.hid (fun (Z : World) (h : Below w.heap.size w Z) => Size_any A l c L Z hl (by omega) ((hc.below h (Nat.le_refl _)).more h.size))
  have hsa := sizeE_all L 0 (by omega) (by rw [hl]; omega)
  obtain ⟨code, hcode⟩ : ∃ x, (expE most L []).1 = x := ⟨_, rfl⟩
  obtain ⟨by_, hby⟩ : ∃ x, (expE most L []).2 = x := ⟨_, rfl⟩
  obtain ⟨n, hn⟩ : ∃ x, (sizeE L 0).getD 0 = x := ⟨_, rfl⟩
  obtain ⟨ok, hok⟩ : ∃ x, (sizeE L 0).isSome = x := ⟨_, rfl⟩
  have HOK : Hid (L.all okT = ok ∧ (ok = true → n = sumT L) ∧ (ok = false → n = 0)) := by
    show _ ∧ _ ∧ _
    rw [← hok, ← hn, hsa]
    by_cases h : L.all okT = true
    · rw [if_pos h, h]; simp
    · rw [if_neg h]; simp [h]
  rw [hcode, hby] at HE1 HE2
  rw [hn, hok] at HSZ
  obtain ⟨bl, hbl0⟩ : ∃ x, by_.length = x := ⟨_, rfl⟩
  rw [hbl0] at HE1 HE2
  have HBL := Lib.hid hbl0
  have hq : (code != code) = false := by simp
  clear hcode hby hn hok hsa hc hl h0 hbl0 hm1 hm2
  go_enter Try.func4, Try.ntmps4
  go_wp2_with (first
    | (go_at_call 13; refine HE1.out.mono ?_; rintro e w2 ⟨A2, c2, rfl, hy2, hb2⟩; have HY2 := Lib.hid hy2; have HB2 := Lib.hid hb2; clear hy2 hb2)
    | (go_at_call 14; refine (HE2.out _ HB2.out).mono ?_; rintro e w3 ⟨A3, c3, rfl, hy3, hb3⟩; have cv1 := run_string_of (P := Try.prog) (c := c2) 22 9 5 Try.underlying22 Try.underlying5 Try.underlying9 (HY2.out.below hb3 (Nat.le_refl _)) HBL.out; have cv2 := run_string_of (P := Try.prog) (c := c3) 22 9 5 Try.underlying22 Try.underlying5 Try.underlying9 hy3 HBL.out; have HB3 := Lib.hid (HB2.out.trans (hb3.mono HB2.out.size)); clear hy3 hb3)
    | (go_at_call 15; refine (HSZ.out _ HB3.out).mono ?_; rintro e w4 ⟨rfl, hb4⟩; have HB4 := Lib.hid (HB3.out.trans (hb4.mono HB3.out.size)); clear hb4))
  go_loopg [11, 12, 13] l (fun gk s11 s12 s13 wr => ∃ (k : Nat) (s : Int), k + gk = l ∧ s11 = .int .i64 s ∧ s12 = .bool ((L.take k).all okT) ∧ s13 = .int .i64 (k : Int) ∧ ((L.take k).all okT = true → s = sumT (L.take k)) ∧ 0 ≤ s ∧ s ≤ 258 * (k : Int) ∧ Below w.heap.size w wr)
  case atStart => exact ⟨0, 0, by omega, rfl, rfl, rfl, fun _ => rfl, by omega, by omega, HB4.out⟩
  case round =>
    obtain ⟨k, s, hk, rfl, rfl, rfl, hs, hs0, hs1, hbl⟩ := hrel
    have HBW := Lib.hid hbl
    have HS := Lib.hid hs
    clear hs hbl
    obtain ⟨fb, hfb0⟩ : ∃ fb, (L.take k).all okT = fb := ⟨_, rfl⟩
    rw [hfb0]
    have HFBO := Lib.hid hfb0
    by_cases h : k < l
    · obtain ⟨t, ht⟩ : ∃ t, L[k]? = some t := ⟨_, List.getElem?_eq_getElem (by rw [HL.out]; exact h)⟩
      have HALL : Hid ((L.take (k + 1)).all okT = (fb && okT t)) := by show _ = _; rw [take_snocT ht, all_snoc, hfb0]
      have HSUM : Hid (sumT (L.take (k + 1)) = sumT (L.take k) + szT t) := by show _ = _; rw [take_snocT ht, sumT_snoc]
      have HRI := Lib.hid (fun Z => Right_any t Z)
      have HRR := Lib.hid (fun Z => rRight_any t Z)
      have hlt3 : k * 3 + 0 < (L.map tiC).flatten.length := (List.getElem?_eq_some_iff.1 (code_at (tiC_len L) ht (show (tiC t)[0]? = some (.int .u8 (t.1.toNat : Int)) from rfl))).1
      obtain ⟨b, o, rfl, hbs, hcc⟩ := HC.out (by omega)
      have HX0 : Hid (∀ Z : World, Below w.heap.size w Z → Z.cell? ⟨b, o + k * 3, none⟩ = some (.int .u8 (t.1.toNat : Int))) := fun Z hZ => (hZ.cell (p := ⟨b, o + k * 3, none⟩) hbs).trans (hcc (k * 3 + 0) _ (code_at (tiC_len L) ht rfl))
      have HX1 : Hid (∀ Z : World, Below w.heap.size w Z → Z.cell? ⟨b, o + k * 3 + 1, none⟩ = some (.int .i64 t.2.1)) := fun Z hZ => (hZ.cell (p := ⟨b, o + k * 3 + 1, none⟩) hbs).trans (hcc (k * 3 + 1) _ (code_at (tiC_len L) ht rfl))
      have HX2 : Hid (∀ Z : World, Below w.heap.size w Z → Z.cell? ⟨b, o + k * 3 + 2, none⟩ = some (.int .i64 t.2.2)) := fun Z hZ => (hZ.cell (p := ⟨b, o + k * 3 + 2, none⟩) hbs).trans (hcc (k * 3 + 2) _ (code_at (tiC_len L) ht rfl))
      obtain ⟨ι, f, n0, hf0, hfb, hfu⟩ := below_class wr
      have HFU := Lib.hid hfu
      have HFB : Hid (∀ n, Below w.heap.size w (f n)) := fun n => HBW.out.trans ((hfb n).mono HBW.out.size)
      haveI : Nonempty ι := ⟨n0⟩
      have y0 := fun n => HX0.out _ (HFB.out n)
      have y1 := fun n => HX1.out _ (HFB.out n)
      have y2 := fun n => HX2.out _ (HFB.out n)
      have hcase : okT t = true → szT t = (if t.2.1 = 0 then 1 else t.2.1) ∧ 0 ≤ t.2.1 ∧ t.2.1 ≤ 258 := fun h => by
        unfold szT
        rcases okT_cases h with h | h <;> split <;> split <;> omega
      obtain ⟨tb, tn, td⟩ := t
      simp only [tiV] at HRI HRR
      dsimp only at y0 y1 y2 HX0 HX1 HX2 hcase
      clear hfb hfu hcc ht hlt3 hfb0
      have HCASE := Lib.hid hcase
      clear hcase
      obtain ⟨bk, hbk⟩ : ∃ bk, okT (tb, tn, td) = bk := ⟨_, rfl⟩
      rw [hbk] at HRI HRR HALL HCASE
      clear hbk
      cases bk
      · have HALL2 : Hid ((L.take (k + 1)).all okT = false) := by show _ = _; rw [HALL.out, Bool.and_false]
        cases fb
        · go_wp2_with fail
          refine region_quiet_f f n0 hf0 (by kernel_rfl) (by kernel_rfl) ?_
          repeat (go_big_quiet_step (first | (go_at_call 16; exact quiet_f HFU.out (HRI.out _)) | (go_at_call 17; exact quiet_f HFU.out (HRR.out _))))
          refine wpQuiet_nil ?_
          rintro _ ⟨nq, rfl⟩
          have HBQ := Lib.hid (HFB.out nq)
          clear HFB HFU hf0 y0 y1 y2
          generalize f nq = w5 at *
          go_wp2
          go_roundg (gk - 1)
          case measure => omega
          case rel => exact ⟨k + 1, s, by omega, rfl, by rw [HALL2.out], by go_num, (fun h => by rw [HALL2.out] at h; cases h), hs0, by omega, HBQ.out⟩
        · go_wp2_with fail
          refine region_quiet_f f n0 hf0 (by kernel_rfl) (by kernel_rfl) ?_
          repeat (go_big_quiet_step (first | (go_at_call 16; exact quiet_f HFU.out (HRI.out _)) | (go_at_call 17; exact quiet_f HFU.out (HRR.out _))))
          refine wpQuiet_nil ?_
          rintro _ ⟨nq, rfl⟩
          have HBQ := Lib.hid (HFB.out nq)
          clear HFB HFU hf0 y0 y1 y2
          generalize f nq = w5 at *
          have z0 := HX0.out _ HBQ.out
          have z1 := HX1.out _ HBQ.out
          have z2 := HX2.out _ HBQ.out
          go_wp2_with (go_at_call 17; refine (HRR.out _).mono ?_; rintro e w6 ⟨rfl, hb6⟩; have HB6 := Lib.hid hb6; clear hb6)
          go_roundg (gk - 1)
          case measure => omega
          case rel => exact ⟨k + 1, s, by omega, rfl, by rw [HALL2.out], by go_num, (fun h => by rw [HALL2.out] at h; cases h), hs0, by omega, HBQ.out.trans (HB6.out.mono HBQ.out.size)⟩
      · cases fb
        · have HALL2 : Hid ((L.take (k + 1)).all okT = false) := HALL.out
          go_wp2_with fail
          refine region_quiet_f f n0 hf0 (by kernel_rfl) (by kernel_rfl) ?_
          repeat (go_big_quiet_step (first | (go_at_call 16; exact quiet_f HFU.out (HRI.out _)) | (go_at_call 17; exact quiet_f HFU.out (HRR.out _))))
          refine wpQuiet_nil ?_
          rintro _ ⟨nq, rfl⟩
          have HBQ := Lib.hid (HFB.out nq)
          clear HFB HFU hf0 y0 y1 y2
          generalize f nq = w5 at *
          go_wp2
          go_roundg (gk - 1)
          case measure => omega
          case rel => exact ⟨k + 1, s, by omega, rfl, by rw [HALL2.out], by go_num, (fun h => by rw [HALL2.out] at h; cases h), hs0, by omega, HBQ.out⟩
        · have HALL2 : Hid ((L.take (k + 1)).all okT = true) := HALL.out
          have hsq := HS.out HFBO.out
          obtain ⟨hz1, hz2, hz3⟩ := HCASE.out rfl
          have HSZT := Lib.hid hz1
          have HSQ := Lib.hid hsq
          clear hz1 hsq
          by_cases h1 : tn = 0
          · have u0 : (tn == 0) = true := by simp [h1]
            have HE : Hid (tn = 0) := h1
            have hw1 : IntKind.i64.wrap (s + 1) = s + 1 := IntWalk.i64_in _ (by omega)
            have hw2 : IntKind.i64.wrap (s + 1 + tn) = s + 1 + tn := IntWalk.i64_in _ (by omega)
            clear h1
            go_wp2_with fail
            refine region_quiet_f f n0 hf0 (by kernel_rfl) (by kernel_rfl) ?_
            repeat (go_big_quiet_step (first | (go_at_call 16; exact quiet_f HFU.out (HRI.out _)) | (go_at_call 17; exact quiet_f HFU.out (HRR.out _))))
            refine wpQuiet_nil ?_
            rintro _ ⟨nq, rfl⟩
            have HBQ := Lib.hid (HFB.out nq)
            clear HFB HFU hf0 y0 y1 y2
            generalize f nq = w5 at *
            have z0 := HX0.out _ HBQ.out
            have z1 := HX1.out _ HBQ.out
            have z2 := HX2.out _ HBQ.out
            go_wp2_with (go_at_call 17; refine (HRR.out _).mono ?_; rintro e w6 ⟨rfl, hb6⟩; have HB6 := Lib.hid (HBQ.out.trans (hb6.mono HBQ.out.size)); have v1 := HX1.out _ HB6.out; clear hb6)
            go_roundg (gk - 1)
            case measure => omega
            case rel => exact ⟨k + 1, s + 1 + tn, by omega, by go_num, by rw [HALL2.out], by go_num, (fun _ => by rw [HSUM.out, ← HSQ.out, HSZT.out, if_pos HE.out, HE.out]; omega), by omega, by have := HE.out; omega, HB6.out⟩
          · have u0 : (tn == 0) = false := by simp [h1]
            have HE : Hid (¬ tn = 0) := h1
            have hw2 : IntKind.i64.wrap (s + tn) = s + tn := IntWalk.i64_in _ (by omega)
            clear h1
            go_wp2_with fail
            refine region_quiet_f f n0 hf0 (by kernel_rfl) (by kernel_rfl) ?_
            repeat (go_big_quiet_step (first | (go_at_call 16; exact quiet_f HFU.out (HRI.out _)) | (go_at_call 17; exact quiet_f HFU.out (HRR.out _))))
            refine wpQuiet_nil ?_
            rintro _ ⟨nq, rfl⟩
            have HBQ := Lib.hid (HFB.out nq)
            clear HFB HFU hf0 y0 y1 y2
            generalize f nq = w5 at *
            have z0 := HX0.out _ HBQ.out
            have z1 := HX1.out _ HBQ.out
            have z2 := HX2.out _ HBQ.out
            go_wp2_with (go_at_call 17; refine (HRR.out _).mono ?_; rintro e w6 ⟨rfl, hb6⟩; have HB6 := Lib.hid (HBQ.out.trans (hb6.mono HBQ.out.size)); have v1 := HX1.out _ HB6.out; clear hb6)
            go_roundg (gk - 1)
            case measure => omega
            case rel => exact ⟨k + 1, s + tn, by omega, by go_num, by rw [HALL2.out], by go_num, (fun _ => by rw [HSUM.out, ← HSQ.out, HSZT.out, if_neg HE.out]), by omega, by omega, HB6.out⟩
    · obtain rfl : k = l := by omega
      obtain ⟨hall, hn1, hn2⟩ := HOK.out
      have htk : L.take k = L := List.take_of_length_le (by rw [HL.out]; exact Nat.le_refl _)
      rw [htk] at hfb0
      obtain rfl : fb = ok := hfb0.symm.trans hall
      have hsk := HS.out
      rw [htk] at hsk
      cases fb
      · have hz := hn2 rfl
        have u0 : (n == 0) = true := by simp [hz]
        clear hn1 hn2 hz hsk htk hall hfb0
        go_wp2_with (go_at_call 7; refine (HLV.out _).mono ?_; rintro e w9 ⟨rfl, hb9⟩; have HB9 := Lib.hid hb9; clear hb9)
        go_ret
        exact ⟨rfl, HBW.out.trans (HB9.out.mono HBW.out.size)⟩
      · have hz := hn1 rfl
        have hz2 := hsk hall
        have u0 : (n == s) = true := by simp [hz, hz2]
        clear hn1 hn2 hz hsk htk hall hfb0 hz2
        go_wp2_with (go_at_call 7; refine (HLV.out _).mono ?_; rintro e w9 ⟨rfl, hb9⟩; have HB9 := Lib.hid hb9; clear hb9)
        go_ret
        exact ⟨rfl, HBW.out.trans (HB9.out.mono HBW.out.size)⟩
end Go.Proofs.Ytdlikfefndogbaa
