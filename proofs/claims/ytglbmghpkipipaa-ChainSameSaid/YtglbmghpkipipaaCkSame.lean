/- Layer 35: the law ChainSame. -/
import Derived.Test.YtglbmghpkipipaaCkSpl
import Derived.Test.YtglbmghpkipipaaTkLaw
import Derived.Test.YtglbmghpkipipaaTxAll
import Derived.Test.YtglbmghpkipipaaMaLaw
namespace Go.Proofs.Ytglbmghpkipipaa
open Go.RowKit Go.Shelf

theorem ti_cells35 (L : List Tk) : (L.map ti).map tiC = L.map tkC := by rw [List.map_map]; rfl
set_option maxRecDepth 100000 in
set_option maxHeartbeats 4000000 in
theorem csame_law (A : Option Addr) (l c : Nat) (bs : List UInt8) (x y lv : Int) (w : World) (hl : bs.length = l) (hcap : l ≤ c) (hb : Bytes w w.heap.size A bs) :
    Calls Try.prog 4 #[.slice A l c, .agg #[.int .i64 x, .int .i64 y], .int .i64 lv] w fun e w' => e = .returned (.bool true) ∧ Below w.heap.size w w' := by
  have HLV := Lib.hid (fun W : World => lives35_any W)
  obtain ⟨W1, hW1⟩ : ∃ W1, w.alloc (.cells #[.int .i64 x, .int .i64 y] 37) = W1 := ⟨_, rfl⟩
  have HB1 : Hid (Below w.heap.size w W1) := by show Below _ _ _; rw [← hW1]; exact (Below.refl _ w).alloc (Nat.le_refl _) _
  by_cases h0 : 2000 < l
  · have t0 : decide ((2000 : Int) < (l : Int)) = true := decide_eq_true (by omega)
    clear h0 hb
    go_enter Try.func4, Try.ntmps4
    go_wp2_with (go_at_call 5; refine (HLV.out _).mono ?_; rintro e w' ⟨rfl, hb2⟩; have HB2 := Lib.hid hb2; clear hb2)
    go_ret
    exact ⟨rfl, HB1.out.trans (HB2.out.mono HB1.out.size)⟩
  have t0 : decide ((2000 : Int) < (l : Int)) = false := decide_eq_false (by omega)
  have hl2 : l ≤ 2000 := by omega
  have e0 : W1.cell? ⟨w.heap.size, 0, none⟩ = some (.int .i64 x) := by rw [← hW1]; exact cell_of_row _ _ 0 _ _ _ (heap_alloc_new w _)
  have e1 : W1.cell? ⟨w.heap.size, 1, none⟩ = some (.int .i64 y) := by rw [← hW1]; exact cell_of_row _ _ 1 _ _ _ (heap_alloc_new w _)
  have HBY := Lib.hid hb
  have HL := Lib.hid hl
  have hdb := depthN_bd lv
  have HNE := Lib.hid (fun (Z : World) (h : Below w.heap.size w Z) => cnew_any A l c bs w.heap.size Z hl hl2 (hb.below h (Nat.le_refl _)) h.size)
  have HDE := Lib.hid (fun W => depth_any lv W)
  have hbe := fun (a : Int) (Z : World) (h : Below w.heap.size w Z) => Best_any A l c bs a (depthN lv) Z hl (by omega) hcap ((hb.below h (Nat.le_refl _)).more h.size) (by omega) (by omega)
  have hfi := fun (a : Int) (g g0 : Nat) (Z : World) (hc : LCh Z g g0 A l c bs) (h : Below w.heap.size w Z) => cfind_any g g0 l c A bs a (depthN lv) w.heap.size Z hl hl2 (hb.below h (Nat.le_refl _)) hc (by omega)
  have HBX := Lib.hid (hbe x)
  have HBYY := Lib.hid (hbe y)
  have HF1 := Lib.hid (hfi x)
  have HF2 := Lib.hid (hfi y)
  have HF3 := Lib.hid (hfi y)
  have HF4 := Lib.hid (hfi x)
  have HSP := Lib.hid (fun (g g0 : Nat) (Z : World) (hc : LCh Z g g0 A l c bs) (h : Below w.heap.size w Z) => csplit_any g g0 A l c bs lv w.heap.size Z hl hl2 (hb.below h (Nat.le_refl _)) h.size hc)
  have HTS := Lib.hid (fun (Z : World) (h : Below w.heap.size w Z) => split_any A l c bs lv Z hl (by omega) hcap ((hb.below h (Nat.le_refl _)).more h.size))
  have hlen := toks_few bs lv
  have hex := toks_exp bs lv (l : Int) bs.length 0 (by omega) (by omega)
  rw [if_pos (.inl (by omega)), List.take_zero] at hex
  obtain ⟨L, hL⟩ : ∃ L, (toks bs lv 0).map ti = L := ⟨_, rfl⟩
  have hLl : (toks bs lv 0).length = L.length := by rw [← hL, List.length_map]
  have hLC : (toks bs lv 0).map tkC = L.map tiC := by rw [← hL, ti_cells35]
  have HEX := Lib.hid (fun (A2 : Option Addr) (c2 : Nat) (Z : World) (hc : Cells Z Z.heap.size A2 (L.map tiC).flatten) => Expand_any A2 L.length c2 L (l : Int) Z rfl (by omega) (by omega) (by omega) hc)
  have HSM := Lib.hid (fun (A1 A2 : Option Addr) (c1 c2 B1 B2 : Nat) (Z : World) (h1 : Cells Z B1 A1 ((toks bs lv 0).map tkC).flatten) (h2 : Cells Z B2 A2 ((toks bs lv 0).map tkC).flatten) => same_any A1 A2 (toks bs lv 0).length c1 c2 B1 B2 (toks bs lv 0) Z rfl (by omega) h1 h2)
  rw [hL] at hex
  rw [hex] at HEX
  simp only [hl] at HEX
  rw [hLl, hLC] at HSP HTS HSM
  have HCV : Hid (∀ Z : World, Below w.heap.size w Z → (convert 22 9 (.slice A l c)).run Try.prog Z = .ok (.string ⟨bs.toArray⟩) Z) := fun Z h =>
    run_string_of (P := Try.prog) (c := c) 22 9 5 Try.underlying22 Try.underlying5 Try.underlying9 ((hb.below h (Nat.le_refl _)).more h.size) hl
  obtain ⟨n1, hn1⟩ : ∃ n, (bestM bs x (depthN lv)).1 = n := ⟨_, rfl⟩
  obtain ⟨d1, hd1⟩ : ∃ n, (bestM bs x (depthN lv)).2 = n := ⟨_, rfl⟩
  obtain ⟨n2, hn2⟩ : ∃ n, (bestM bs y (depthN lv)).1 = n := ⟨_, rfl⟩
  obtain ⟨d2, hd2⟩ : ∃ n, (bestM bs y (depthN lv)).2 = n := ⟨_, rfl⟩
  rw [hn1, hd1] at HBX HF1 HF4
  rw [hn2, hd2] at HBYY HF2 HF3
  clear hb hl h0 hcap hbe hfi hex hL hLl hLC hn1 hd1 hn2 hd2 hlen
  generalize depthN lv = dn at *
  go_enter Try.func4, Try.ntmps4
  go_wp2_with fail
  go_quiet (fail)
  go_wp2_with (first
    | (go_at_call 7; refine (HNE.out _ (belowDrewN HB1.out _)).mono ?_; rintro e w2 ⟨rfl, hch, hb2⟩; have HC2 := Lib.hid hch; have HB2 := Lib.hid ((belowDrewN HB1.out nq).trans (hb2.mono (belowDrewN HB1.out nq).size)); clear hch hb2 HB1)
    | (go_at_call 7; refine (HNE.out _ HB2.out).mono ?_; clear HNE; rintro e w3 ⟨rfl, hch, hb3⟩; have HC3 := Lib.hid (HC2.out.below hb3); have HD3 := Lib.hid hch; have HB3 := Lib.hid (HB2.out.trans (hb3.mono HB2.out.size)); clear hch hb3)
    | (go_at_call 12; refine (HDE.out _).mono ?_; rintro e w' ⟨rfl, rfl⟩)
    | (go_at_call 13; refine (HBX.out _ HB3.out).mono ?_; clear HBX; rintro e w4 ⟨rfl, hb4⟩; have HB4 := Lib.hid (HB3.out.trans (hb4.mono HB3.out.size)); have HC4 := Lib.hid (HC3.out.below hb4); have HD4 := Lib.hid (HD3.out.below hb4); clear hb4)
    | (go_at_call 13; refine (HBYY.out _ HB4.out).mono ?_; clear HBYY; rintro e w5 ⟨rfl, hb5⟩; have HB5 := Lib.hid (HB4.out.trans (hb5.mono HB4.out.size)); have HC5 := Lib.hid (HC4.out.below hb5); have HD5 := Lib.hid (HD4.out.below hb5); clear hb5)
    | (go_at_call 14; refine (HF1.out _ _ w5 HC5.out HB5.out).mono ?_; clear HF1; rintro e w' ⟨rfl, q1, rfl⟩)
    | (go_at_call 14; refine (HF2.out _ _ _ (HC5.out.drewN _) (belowDrewN HB5.out _)).mono ?_; clear HF2; rintro e w' ⟨rfl, q2, rfl⟩)
    | (go_at_call 14; refine (HF3.out _ _ _ (HD5.out.drewN _) (belowDrewN HB5.out _)).mono ?_; clear HF3; rintro e w' ⟨rfl, q3, rfl⟩)
    | (go_at_call 14; refine (HF4.out _ _ _ (HD5.out.drewN _) (belowDrewN HB5.out _)).mono ?_; clear HF4; rintro e w' ⟨rfl, q4, rfl⟩)
    | (go_at_call 11; refine (HSP.out _ _ _ (HD5.out.drewN _) (belowDrewN HB5.out _)).mono ?_; rintro e w6 ⟨A6, c6, rfl, hc6, hb6⟩; have HC6 := Lib.hid hc6; have HB6 : Hid (Below w.heap.size w w6) := (belowDrewN HB5.out _).trans (hb6.mono (belowDrewN HB5.out _).size); clear hc6 hb6)
    | (go_at_call 15; refine (HEX.out _ _ _ HC6.out).mono ?_; rintro e w7 ⟨A7, c7, rfl, hy7, hb7⟩; have HY7 := Lib.hid hy7; have HC7 := Lib.hid (HC6.out.below hb7 (Nat.le_refl _)); have HB7 := Lib.hid (HB6.out.trans (hb7.mono HB6.out.size)); have HS7 := Lib.hid hb7.size; clear hy7 hb7)
    | (go_at_call 16; refine (HTS.out _ HB7.out).mono ?_; rintro e w8 ⟨A8, c8, rfl, hc8, hb8⟩; have HC8 := Lib.hid hc8; have HY8 := Lib.hid (HY7.out.below hb8 (Nat.le_refl _)); have HC78 := Lib.hid (HC7.out.below hb8 HS7.out); have HB8 := Lib.hid (HB7.out.trans (hb8.mono HB7.out.size)); have HS8 := Lib.hid hb8.size; clear hc8 hb8)
    | (go_at_call 10; refine (HSM.out _ _ _ _ _ _ _ HC78.out HC8.out).mono ?_; rintro e w9 ⟨rfl, hb9⟩; have HB9 := Lib.hid (HB8.out.trans (hb9.mono HB8.out.size)); have cv1 := run_string_of (P := Try.prog) (c := c7) 22 9 5 Try.underlying22 Try.underlying5 Try.underlying9 (HY8.out.below hb9 HS8.out) HL.out; have cv2 := HCV.out w9 HB9.out; clear hb9)
    | (go_at_call 5; refine (HLV.out _).mono ?_; rintro e w10 ⟨rfl, hb10⟩; have HB10 := Lib.hid hb10; clear hb10))
  go_ret
  exact ⟨rfl, HB9.out.trans (HB10.out.mono HB9.out.size)⟩
end Go.Proofs.Ytglbmghpkipipaa
