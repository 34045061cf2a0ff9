/- Layer 18: DescFlips: plainly, and walked. -/
import Derived.Test.YtnccbnadfgilaaaDcBack
import Derived.Test.YtnccbnadfgilaaaCrcRes
import Derived.Test.YtnccbnadfgilaaaKFlip
namespace Go.Proofs.Ytnccbnadfgilaaa
open Go.RowKit CrcP FieldP
attribute [local go_sem ↓] Go.wp_at_zero Go.wp_at_succ

theorem ofV_sum {c : List UInt8} (h : (ofV c).2.2.2 = 0) : (ofV c).2.2.1 = sumN c := by
  unfold ofV at h ⊢
  split
  · rename_i h1
    rw [if_pos h1] at h
    exact absurd h h1
  · rename_i h1
    rw [if_neg h1] at h
    split
    · rfl
    · rename_i h2
      rw [if_neg h2] at h
      cases h
/-- A payload in which something within 32 bits is changed is fit no more. -/
theorem fit_flip {ar : List UInt8} {n l s : Nat} (a bits : Nat) (h : ofV ar = (n, l, s, 0)) : fitB (n : Int) (l : Int) (s : Int) (ofV (flipK ar a bits 32)) = decide (ar = flipK ar a bits 32) := by
  by_cases hq : ar = flipK ar a bits 32
  · rw [← hq, h, fit_same]
    simp
  · rw [decide_eq_false hq]
    unfold fitB
    refine decide_eq_false fun hf => ?_
    obtain ⟨h1, _, _, h4⟩ := hf
    have h5 := ofV_sum h1
    have h6 : sumN ar = s := by
      have := ofV_sum (c := ar) (by rw [h])
      rw [h] at this
      exact this.symm
    have ha : a / 8 < ar.length := by
      rcases Nat.lt_or_ge (a / 8) ar.length with h7 | h7
      · exact h7
      · exfalso
        have := flipK_end ar a bits 0 (by rw [Nat.add_zero]; exact h7) 32
        rw [Nat.zero_add] at this
        exact hq this.symm
    exact hq ((burst ar a bits ha).1 (by rw [h6]; omega))
/-- A descriptor in which something within 32 bits is changed is refused. -/
theorem desc_flip {n l s : Nat} (a bits : Nat) (h : dcR (flipK (descB (n : Int) (l : Int) (s : Int)) a bits 32) 0 = 0) : descB (n : Int) (l : Int) (s : Int) = flipK (descB (n : Int) (l : Int) (s : Int)) a bits 32 := by
  have hl : (descB (n : Int) (l : Int) (s : Int)).length = 20 := threeB_length _ _ _ _ rfl
  have hfl := length_flipK (descB (n : Int) (l : Int) (s : Int)) a bits 32
  obtain ⟨F, hF⟩ : ∃ F, flipK (descB (n : Int) (l : Int) (s : Int)) a bits 32 = F := ⟨_, rfl⟩
  rw [hF] at h hfl
  have h3 : threeR F 0 = 0 := by
    unfold dcR at h
    rw [if_neg (by omega), show (0 : Int).toNat = 0 from rfl, if_neg (by omega)] at h
    split at h
    · cases h
    · split at h
      · rename_i hx; exact absurd h hx
      · rename_i hx; exact Decidable.not_not.1 hx
  rw [three_there (by omega)] at h3
  have hv : val ((F.drop (0 + 16)).take 4) = sumN ((F.drop 0).take 16) := by
    split at h3
    · assumption
    · cases h3
  rw [← hF] at hv
  rw [Nat.zero_add, List.drop_zero] at hv
  exact burst_sealed (k := 16) hl hv
theorem dcA_form' (bs : List UInt8) (p : Int) : ∃ a b s : Int, dcA bs p = .agg #[.int .i64 a, .int .i64 b, .int .u32 s] := by
  unfold dcA
  split
  · exact ⟨_, _, _, rfl⟩
  · exact ⟨_, _, _, rfl⟩
set_option maxRecDepth 100000 in
set_option maxHeartbeats 1000000 in
theorem dcflips_in (A : Option Addr) (l c : Nat) (ls : List PcV) (a bits : Int) (w : World) (hl : ls.length = l) (hr : RowsIn w A ls) (h20 : l ≤ 20) (a0 : 0 ≤ a) (a1 : a ≤ 50000) (b0 : 0 ≤ bits) (b1 : bits < 4294967296) :
    Calls Try.prog 6 #[.slice A l c, .int .i64 a, .int .u32 bits] w fun e w' => e = .returned (.bool true) ∧ Below w.heap.size w w' := by
  have hd : decide ((20 : Int) < (l : Int)) = false := by simp; omega
  have hd2 : decide (a < 0) = false := by simp; omega
  have hd3 : decide ((50000 : Int) < a) = false := by simp; omega
  have hz := (zero_of_info tableInfo).1
  have HSZ := Lib.hid tableSize
  have HL := Lib.hid hl
  have HR := Lib.hid hr
  have HAB := Lib.hid (show 0 ≤ a ∧ a ≤ 50000 ∧ 0 ≤ bits ∧ bits < 4294967296 from ⟨a0, a1, b0, b1⟩)
  clear hl hr a0 a1 b0 b1
  go_enter Try.func6, Try.ntmps6
  go_upto_region 4 with fail
  go_loopg [7] l (fun gk si wr => ∃ (i : Nat), i + gk = l ∧ si = .int .i64 (i : Int) ∧ sumP (ls.take i) ≤ 1000 * i ∧ (∀ x ∈ ls.take i, x.1.length ≤ 1000) ∧ wr = w)
  case atStart => exact ⟨0, by omega, rfl, by simp [sumP], by simp, rfl⟩
  case round =>
    obtain ⟨i, hi, rfl, hn3, hall, rfl⟩ := hrel
    have HA := Lib.hid hall
    have HN3 := Lib.hid hn3
    clear hall hn3
    by_cases hil : i < l
    · obtain ⟨x, hx⟩ : ∃ x, ls[i]? = some x := ⟨_, List.getElem?_eq_getElem (by rw [HL.out]; exact hil)⟩
      obtain ⟨b, o, rfl, hbB, hcc⟩ := HR.out.row (by rw [List.length_map, HL.out]; omega)
      have ci : wr.cell? ⟨b, o + i, none⟩ = some (pcC x) := hcc i _ (by rw [List.getElem?_map, hx]; rfl)
      have HU := Lib.hid (sumP_up hx)
      have HTU := Lib.hid (take_up hx)
      obtain ⟨r, A3, k3⟩ := x
      have ci2 : wr.cell? ⟨b, o + i, none⟩ = some (.slice A3 r.length k3) := ci
      obtain ⟨rl, hrl⟩ : ∃ rl, r.length = rl := ⟨_, rfl⟩
      have HRL := Lib.hid hrl
      rw [hrl] at ci2
      clear hcc ci hx hbB hrl
      by_cases h3 : 1000 < rl
      · have u1 : (1000 : Int) < (rl : Int) := by omega
        go_wp2_with (go_at_call 7; refine (dcLives_any _).mono ?_; rintro e w4 ⟨rfl, hb4⟩; have HB4 := Lib.hid hb4; clear hb4)
        go_ret
        exact ⟨rfl, HB4.out⟩
      · have u1 : ¬ (1000 : Int) < (rl : Int) := by omega
        go_wp2
        go_roundg (gk - 1)
        case measure => omega
        case rel =>
          refine ⟨i + 1, by omega, by go_num, ?_, fun y hy => ?_, rfl⟩
          · rw [HU.out]
            have h1 := HN3.out
            have h2 := HRL.out
            omega
          · rw [HTU.out] at hy
            rcases List.mem_append.1 hy with h | h
            · exact HA.out y h
            · obtain rfl : y = (r, A3, k3) := by simpa using h
              show r.length ≤ 1000
              rw [HRL.out]
              omega
    · obtain rfl : i = l := by omega
      have htl : ls.take i = ls := by rw [← HL.out, List.take_length]
      have hall : ∀ x ∈ ls, x.1.length ≤ 65535 := fun x hx => by
        have := HA.out x (by rw [htl]; exact hx)
        omega
      have hns : sumP ls ≤ 20000 := by
        have h1 := HN3.out
        rw [htl] at h1
        omega
      obtain ⟨hov, hdb⟩ := ofV_stream hall (by omega) (by have := HL.out; omega)
      have HPLN := Lib.hid (pcsB_len ls)
      obtain ⟨w0, hw0⟩ : ∃ X, X = wr := ⟨_, rfl⟩
      subst hw0
      have HST : Hid (∀ V, Below w0.heap.size w0 V → _) := fun V hV => stream_any A i c ls V HL.out (by omega) (HR.out.below hV) (by omega)
      obtain ⟨ar, har⟩ : ∃ ar, pcsB ls ++ [0, 0] = ar := ⟨_, rfl⟩
      obtain ⟨la, hla⟩ : ∃ la, ar.length = la := ⟨_, rfl⟩
      have hla2 : 2 ≤ la ∧ la ≤ 60100 := by
        have h1 := HPLN.out
        have h2 := HL.out
        rw [← hla, ← har, List.length_append]
        simp only [List.length_cons, List.length_nil]
        omega
      rw [har] at hov hdb HST
      rw [hla] at hov hdb
      have hsl := sumN_lt ar
      obtain ⟨s, hs⟩ : ∃ s, sumN ar = s := ⟨_, rfl⟩
      rw [hs] at hov hsl
      obtain ⟨n, hnn⟩ : ∃ n, sumP ls = n := ⟨_, rfl⟩
      rw [hnn] at hov hdb
      have HLA := Lib.hid hla
      have HOV := Lib.hid hov
      have HDB := Lib.hid hdb
      have HFF := Lib.hid (fit_flip a.toNat bits.toNat hov)
      have HDF := Lib.hid (desc_flip (n := n) (l := la) (s := s) a.toNat bits.toNat)
      have HDK := Lib.hid (desc_back (a := []) (s := descB (n : Int) (la : Int) (s : Int)) [] hdb hsl rfl)
      clear hla hov hdb hns har hs htl hall HN3 HA HR HPLN hnn
      go_wp2_with fail
      refine (make_any _).mono ?_
      rintro e w1 ⟨rfl, hb⟩
      have HB1 := Lib.hid hb
      have HG := Lib.hid (heap_alloc_last w1 (.cells (Array.replicate 256 (.int .u32 0)) 26))
      clear hb
      go_wp2_with (refine wpList_store_row rfl 26 _ _ rfl w1.heap.size tabCells rfl rfl 26 _ HG.out HSZ.out (by rw [Array.size_replicate, tabCells_size]) tabCells_one ?_; rw [World.setRow_alloc_new]; have HT2 := Lib.hid (table_new w1); have HB2' := Lib.hid (HB1.out.alloc HB1.out.size (.cells tabCells 26)); generalize w1.alloc (.cells tabCells 26) = w2 at *)
      clear hz HG HSZ
      obtain ⟨tg, htg⟩ : ∃ tg, w1.heap.size = tg := ⟨_, rfl⟩
      rw [htg] at HT2 ⊢
      clear htg
      refine (HST.out w2 HB2'.out).mono ?_
      rintro e w3 ⟨A3, la', c3, rfl, ho3, hb3⟩
      obtain rfl : la' = la := by have h1 := ho3.1; rw [byteCells_length, HLA.out] at h1; exact h1.symm
      have hcap3 := capT ho3
      have HAR : Hid (∀ V, Below w3.heap.size w3 V → Bytes V w3.heap.size A3 ar) := fun V hV => Cells.below ho3.cells hV (Nat.le_refl _)
      have HT3 : Hid (Table w3 tg) := HT2.out.below hb3 HT2.out.lt
      have HB3 : Hid (Below w0.heap.size w0 w3) := HB2'.out.trans (hb3.mono HB2'.out.size)
      clear ho3 hb3 HT2 HST HB1
      have HOF := Lib.hid (dcOf_any tg A3 la' c3 w3.heap.size ar w3 HT3.out HLA.out (by omega) hcap3 (HAR.out w3 (Below.refl _ _)) (Nat.le_refl _))
      rw [HOV.out] at HOF
      dsimp only at HOF
      go_wp2_with fail
      refine HOF.out.mono ?_
      rintro e w4 ⟨rfl, hb4⟩
      obtain ⟨W5, hW5⟩ : ∃ W5, w4.alloc (.cells #[.int .i64 (n : Int), .int .i64 (la' : Int), .int .u32 (s : Int)] 29) = W5 := ⟨_, rfl⟩
      have HD5 : Hid (Box W5 w4.heap.size #[.int .i64 (n : Int), .int .i64 (la' : Int), .int .u32 (s : Int)] 29) := by show Box _ _ _ _; rw [← hW5]; exact heap_alloc_new w4 _
      have HB35 : Hid (Below w3.heap.size w3 W5) := by show Below _ _ _; rw [← hW5]; exact hb4.alloc hb4.size _
      obtain ⟨db, hdbk⟩ : ∃ db, w4.heap.size = db := ⟨_, rfl⟩
      rw [hdbk] at HD5
      have e0 : W5.cell? ⟨db, 0, none⟩ = some (.int .i64 (n : Int)) := HD5.out.cell 0
      have e1 : W5.cell? ⟨db, 1, none⟩ = some (.int .i64 (la' : Int)) := HD5.out.cell 1
      have e2 : W5.cell? ⟨db, 2, none⟩ = some (.int .u32 (s : Int)) := HD5.out.cell 2
      go_upto_region 11 with fail
      clear hW5 hb4 hdbk HOF
      have HPU := Lib.hid (dcPut_yes tg (n : Int) (la' : Int) (s : Int) W5 HDB.out (by omega) (by omega) (HT3.out.below HB35.out HT3.out.lt))
      go_wp2_with fail
      refine HPU.out.mono ?_
      rintro e w6 ⟨A6, k6, rfl, ho6, hb6⟩
      have HDS : Hid (∀ V, Below w6.heap.size w6 V → Bytes V w6.heap.size A6 (descB (n : Int) (la' : Int) (s : Int))) := fun V hV => Cells.below ho6.cells hV (Nat.le_refl _)
      have HD6 : Hid (Box w6 db #[.int .i64 (n : Int), .int .i64 (la' : Int), .int .u32 (s : Int)] 29) := HD5.out.below hb6 HD5.out.lt
      have HB36 : Hid (Below w3.heap.size w3 w6) := HB35.out.trans (hb6.mono HB35.out.size)
      have HDL : Hid ((descB (n : Int) (la' : Int) (s : Int)).length = 20) := threeB_length _ _ _ _ rfl
      clear ho6 hb6 HPU e0 e1 e2 HD5 HB35
      obtain ⟨D, hD⟩ : ∃ D, descB (n : Int) (la' : Int) (s : Int) = D := ⟨_, rfl⟩
      rw [hD] at HDS HDL HDF HDK
      clear hD
      obtain ⟨Y, hY⟩ : ∃ Y, flipK ar a.toNat bits.toNat 32 = Y := ⟨_, rfl⟩
      obtain ⟨Z, hZ⟩ : ∃ Z, flipK D a.toNat bits.toNat 32 = Z := ⟨_, rfl⟩
      have hab := HAB.out
      have HFY := Lib.hid (refFlip_any A3 la' c3 ar a bits w6 HLA.out (by omega) hab.1 (by omega) hab.2.2.1 hab.2.2.2 ((HAR.out w6 HB36.out).more HB36.out.size))
      have HFZ : Hid (∀ V, Below w6.heap.size w6 V → _) := fun V hV => refFlip_any A6 20 k6 D a bits V HDL.out (by omega) hab.1 (by omega) hab.2.2.1 hab.2.2.2 ((HDS.out V hV).more hV.size)
      have HYL : Hid (Y.length = la') := by show _ = _; rw [← hY, length_flipK, HLA.out]
      have HZL : Hid (Z.length = 20) := by show _ = _; rw [← hZ, length_flipK, HDL.out]
      rw [hY] at HFY HFF
      rw [hZ] at HFZ HDF
      clear hY hZ hab
      go_wp2_with fail
      refine HFY.out.mono ?_
      rintro e w7 ⟨A7, c7, rfl, hy7, hb7, hc7⟩
      have HBY : Hid (∀ V, Below w7.heap.size w7 V → Bytes V w7.heap.size A7 Y) := fun V hV => Cells.below hy7 hV (Nat.le_refl _)
      have HB67 := Lib.hid hb7
      clear hy7 hb7 HFY
      go_wp2_with fail
      refine (HFZ.out w7 HB67.out).mono ?_
      rintro e w8 ⟨A8, c8, rfl, hz8, hb8, hc8⟩
      have HBZ : Hid (∀ V, Below w8.heap.size w8 V → Bytes V w8.heap.size A8 Z) := fun V hV => Cells.below hz8 hV (Nat.le_refl _)
      have HB78 := Lib.hid hb8
      have HB68 : Hid (Below w6.heap.size w6 w8) := HB67.out.trans (hb8.mono HB67.out.size)
      have HB38 : Hid (Below w3.heap.size w3 w8) := HB36.out.trans (HB68.out.mono HB36.out.size)
      clear hz8 hb8 HFZ
      have HTK := Lib.hid (dcTake_any tg A8 20 c8 Z w8.heap.size 0 w8 (HT3.out.below HB38.out HT3.out.lt) HZL.out (by omega) hc8 (HBZ.out w8 (Below.refl _ _)) (Nat.le_refl _))
      obtain ⟨x1, x2, x3, hAf⟩ := dcA_form' Z 0
      rw [hAf] at HTK
      obtain ⟨r, hr⟩ : ∃ r, dcR Z 0 = r := ⟨_, rfl⟩
      have HRZ : Hid ((D = Z → r = 0) ∧ (r = 0 → D = Z)) := by
        refine ⟨fun e => ?_, fun e => HDF.out (hr.trans e)⟩
        have := HDK.out.1
        rw [List.nil_append, List.append_nil, List.length_nil, e] at this
        rw [← hr]
        exact this
      rw [hr] at HTK
      clear hAf hr HDF HDK
      go_wp2_with fail
      refine HTK.out.mono ?_
      rintro e w9 ⟨rfl, hb9⟩
      obtain ⟨W10, hW10⟩ : ∃ W10, w9.alloc (.cells #[.int .i64 x1, .int .i64 x2, .int .u32 x3] 29) = W10 := ⟨_, rfl⟩
      have HB810 : Hid (Below w8.heap.size w8 W10) := by show Below _ _ _; rw [← hW10]; exact hb9.alloc hb9.size _
      have HB610 : Hid (Below w6.heap.size w6 W10) := HB68.out.trans (HB810.out.mono HB68.out.size)
      have HB310 : Hid (Below w3.heap.size w3 W10) := HB38.out.trans (HB810.out.mono HB38.out.size)
      have HB710 : Hid (Below w7.heap.size w7 W10) := HB78.out.trans (HB810.out.mono HB78.out.size)
      have HD10 := HD6.out.below HB610.out HD6.out.lt
      have HFT := Lib.hid (fits_any tg (n : Int) (la' : Int) (s : Int) A7 la' c7 w7.heap.size Y W10 (HT3.out.below HB310.out HT3.out.lt) HYL.out (by omega) hc7 (HBY.out W10 HB710.out) HB710.out.size)
      rw [HFF.out] at HFT
      have e0 : W10.cell? ⟨db, 0, none⟩ = some (.int .i64 (n : Int)) := HD10.cell 0
      have e1 : W10.cell? ⟨db, 1, none⟩ = some (.int .i64 (la' : Int)) := HD10.cell 1
      have e2 : W10.cell? ⟨db, 2, none⟩ = some (.int .u32 (s : Int)) := HD10.cell 2
      go_upto_region 16 with fail
      clear hW10 hb9 HD10 HTK
      go_wp2_with fail
      refine HFT.out.mono ?_
      rintro e w11 ⟨rfl, hb11⟩
      have HB311 : Hid (Below w3.heap.size w3 w11) := HB310.out.trans (hb11.mono HB310.out.size)
      have HS1 := Lib.hid (same_any A3 la' c3 ar A7 la' c7 Y w3.heap.size w7.heap.size w11 HLA.out HYL.out (HAR.out _ HB311.out) (HBY.out _ (HB710.out.trans (hb11.mono HB710.out.size))))
      have HS2 := Lib.hid (same_any A6 20 k6 D A8 20 c8 Z w6.heap.size w8.heap.size w11 HDL.out HZL.out (HDS.out _ (HB610.out.trans (hb11.mono HB610.out.size))) (HBZ.out _ (HB810.out.trans (hb11.mono HB810.out.size))))
      have HB11 : Hid (Below w0.heap.size w0 w11) := HB3.out.trans (HB311.out.mono HB3.out.size)
      obtain ⟨t1, ht1⟩ : ∃ t1, decide (ar = Y) = t1 := ⟨_, rfl⟩
      rw [ht1] at HS1 ⊢
      have hb1 : (t1 == t1) = true := by simp
      clear ht1 hb11 HFT e0 e1 e2 HB310 HB610 HB710 HB810 HB311 HAR HBY HDS HBZ
      by_cases hDZ : D = Z
      · obtain rfl : r = 0 := HRZ.out.1 hDZ
        rw [decide_eq_true hDZ] at HS2
        clear hDZ
        go_wp2_with fail
        refine HS1.out.mono ?_
        rintro e w' ⟨rfl, rfl⟩
        go_wp2_with fail
        refine HS2.out.mono ?_
        rintro e w' ⟨rfl, rfl⟩
        go_wp2_with (go_at_call 7; refine (dcLives_any _).mono ?_; rintro e w12 ⟨rfl, hb12⟩; have HB12 := Lib.hid hb12; clear hb12)
        go_ret
        exact ⟨rfl, HB11.out.trans (HB12.out.mono HB11.out.size)⟩
      · have hr0 : r ≠ 0 := fun e => hDZ (HRZ.out.2 e)
        have hr1 : (r == 0) = false := by simp [hr0]
        have hr2 : ((r : Int) == 0) = false := by simp [hr0]
        rw [decide_eq_false hDZ] at HS2
        clear hDZ hr0
        go_wp2_with fail
        refine HS1.out.mono ?_
        rintro e w' ⟨rfl, rfl⟩
        go_wp2_with fail
        refine HS2.out.mono ?_
        rintro e w' ⟨rfl, rfl⟩
        go_wp2_with (go_at_call 7; refine (dcLives_any _).mono ?_; rintro e w12 ⟨rfl, hb12⟩; have HB12 := Lib.hid hb12; clear hb12)
        go_ret
        exact ⟨rfl, HB11.out.trans (HB12.out.mono HB11.out.size)⟩
set_option maxHeartbeats 400000 in
theorem dcflips_any (A : Option Addr) (l c : Nat) (ls : List PcV) (a bits : Int) (w : World) (hl : ls.length = l) (hr : RowsIn w A ls) (b0 : 0 ≤ bits) (b1 : bits < 4294967296) :
    Calls Try.prog 6 #[.slice A l c, .int .i64 a, .int .u32 bits] w fun e w' => e = .returned (.bool true) ∧ Below w.heap.size w w' := by
  by_cases h20 : 20 < l
  · have hd : decide ((20 : Int) < (l : Int)) = true := by simp; omega
    clear hl hr
    go_enter Try.func6, Try.ntmps6
    go_wp2_with (go_at_call 7; refine (dcLives_any _).mono ?_; rintro e w4 ⟨rfl, hb4⟩; have HB4 := Lib.hid hb4; clear hb4)
    go_ret
    exact ⟨rfl, HB4.out⟩
  have hd : decide ((20 : Int) < (l : Int)) = false := by simp; omega
  by_cases ha : a < 0
  · have hd2 : decide (a < 0) = true := by simp; omega
    clear hl hr
    go_enter Try.func6, Try.ntmps6
    go_wp2_with (go_at_call 7; refine (dcLives_any _).mono ?_; rintro e w4 ⟨rfl, hb4⟩; have HB4 := Lib.hid hb4; clear hb4)
    go_ret
    exact ⟨rfl, HB4.out⟩
  have hd2 : decide (a < 0) = false := by simp; omega
  by_cases hb : 50000 < a
  · have hd3 : decide ((50000 : Int) < a) = true := by simp; omega
    clear hl hr
    go_enter Try.func6, Try.ntmps6
    go_wp2_with (go_at_call 7; refine (dcLives_any _).mono ?_; rintro e w4 ⟨rfl, hb4⟩; have HB4 := Lib.hid hb4; clear hb4)
    go_ret
    exact ⟨rfl, HB4.out⟩
  exact dcflips_in A l c ls a bits w hl hr (by omega) (by omega) (by omega) b0 b1
end Go.Proofs.Ytnccbnadfgilaaa
