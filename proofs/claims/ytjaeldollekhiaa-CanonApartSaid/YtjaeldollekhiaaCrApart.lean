/- Layer 8: no code begins another one: the law. -/
import Derived.Test.YtjaeldollekhiaaCrTake
import Derived.Test.YtjaeldollekhiaaCa9
namespace Go.Proofs.Ytjaeldollekhiaa
open Go.RowKit BitsP

/-- A code, cut to a length. -/
def cutV (v n m : Nat) : Nat := v / 2 ^ (n - m)
theorem cut_apart {zs : List Int} {i k n v a m u b : Nat} (h : Sym zs i n v a) (h' : Sym zs k m u b) (hne : k ≠ i) : cutV v n m ≠ cutV u m n := by
  intro e
  unfold cutV at e
  rcases Nat.le_total n m with hle | hle
  · rw [show n - m = 0 by omega, Nat.pow_zero, Nat.div_one] at e
    exact hne (h.apart h' hle e.symm).symm
  · rw [show m - n = 0 by omega, Nat.pow_zero, Nat.div_one] at e
    exact hne (h'.apart h hle e)
theorem half_step (v d : Nat) : v / 2 ^ d / 2 = v / 2 ^ (d + 1) := by rw [Nat.pow_succ, Nat.div_div_eq_div_mul]
theorem two_bytes {x y : Int} (hx : 0 ≤ x ∧ x < 256) (hy : 0 ≤ y ∧ y < 256) : ∃ bs : List UInt8, bs.length = 2 ∧ byteCells bs = [.int .u8 x, .int .u8 y] := by
  obtain ⟨a, rfl⟩ := Int.eq_ofNat_of_zero_le hx.1
  obtain ⟨b, rfl⟩ := Int.eq_ofNat_of_zero_le hy.1
  refine ⟨[UInt8.ofNat a, UInt8.ofNat b], rfl, ?_⟩
  have h1 : (UInt8.ofNat a).toNat = a := by simp [UInt8.toNat_ofNat']; omega
  have h2 : (UInt8.ofNat b).toNat = b := by simp [UInt8.toNat_ofNat']; omega
  show [Value.int .u8 ((UInt8.ofNat a).toNat : Nat), Value.int .u8 ((UInt8.ofNat b).toNat : Nat)] = _
  rw [h1, h2]
set_option maxRecDepth 100000 in
set_option maxHeartbeats 400000 in
theorem canapart_any (A : Option Addr) (l c : Nat) (zs : List Int) (x y : Int) (w : World) (hl : zs.length = l) (hm : l ≤ 9223372036854775807) (hb : Cells w w.heap.size A (zs.map ic)) (hx : 0 ≤ x ∧ x < 256) (hy : 0 ≤ y ∧ y < 256) :
    Calls Try.prog 6 #[.slice A l c, .agg #[.int .u8 x, .int .u8 y]] w fun e w' => e = .returned (.bool true) ∧ Below w.heap.size w w' := by
  have HLV := Lib.hid lives8_any
  obtain ⟨bs, hbl, hbc⟩ := two_bytes hx hy
  obtain ⟨W0, hW0⟩ : ∃ W0, w.alloc (.cells #[.int .u8 x, .int .u8 y] 49) = W0 := ⟨_, rfl⟩
  have HB0 : Hid (Below w.heap.size w W0) := by show Below _ _ _; rw [← hW0]; exact (Below.refl _ w).alloc (Nat.le_refl _) _
  have HZ0 : Hid (W0.heap.size = w.heap.size + 1) := by show _ = _; rw [← hW0]; simp
  have HBY : Hid (Bytes W0 W0.heap.size (some ⟨w.heap.size, 0, none⟩) bs) := by
    show Cells _ _ _ _
    rw [hbc, HZ0.out, ← hW0]
    exact fun _ => ⟨w.heap.size, 0, rfl, by omega, fun j u hu => by
      rw [cell_of_row _ w.heap.size (0 + j) _ _ _ (heap_alloc_new w _), Nat.zero_add]
      simpa using hu⟩
  have HZB : Hid (Cells W0 W0.heap.size A (zs.map ic)) := (hb.below HB0.out (Nat.le_refl _)).more (by have := HZ0.out; omega)
  cases hr : caR zs with
  | false =>
    have HV := Lib.hid (values_no A l c zs _ W0 hl hm HZB.out hr)
    clear hr hb hl hx hy hbc hbl
    go_enter Try.func6, Try.ntmps6
    go_wp2_with (first | (go_at_call 9; refine HV.out.mono ?_; rintro e w' ⟨rfl, rfl⟩) | (go_at_call 7; refine (HLV.out _).mono ?_; rintro e w4 ⟨rfl, hb4⟩; have HB4 := Lib.hid hb4; clear hb4))
    go_ret
    exact ⟨rfl, HB0.out.trans (HB4.out.mono HB0.out.size)⟩
  | true =>
    have h320 := (caR_len hr).1
    have HV := Lib.hid (values_any A l c zs _ W0 hl (by omega) HZB.out (Nat.le_refl _) hr)
    have hd : decide ((400 : Int) < (l : Int)) = false := by simp; omega
    have HR := Lib.hid hr
    have HL := Lib.hid hl
    have HCL : Hid ((caV zs).length = l) := by
      have := (vi_take zs (ordL zs).length (Nat.le_refl _)).1.len
      rw [List.take_length] at this
      show _ = _
      rw [← hl]
      exact this
    have hll : ((l : Int) != (l : Int)) = false := by simp
    have HLB := Lib.hid (caR_len hr).2
    have HBL := Lib.hid hbl
    have hl320 : l ≤ 320 := by omega
    clear hr hb hl hx hy hbc hbl h320
    go_enter Try.func6, Try.ntmps6
    go_wp2_with (go_at_call 9; refine HV.out.mono ?_; rintro e w1 ⟨rfl, hi1, hb1⟩; have HI1 := Lib.hid hi1; have HB1 := Lib.hid hb1; clear hi1 hb1)
    have HZ1 : Hid (Cells w1 W0.heap.size A (zs.map ic)) := HZB.out.below HB1.out (Nat.le_refl _)
    have HBX : Hid (∀ m, Below w.heap.size w (w1.drewN m)) := fun m => by
      have h := HB0.out.trans (HB1.out.mono HB0.out.size)
      exact ⟨h.os, h.tape, h.output, h.size, h.block⟩
    clear hW0 HV HZB
    go_loopg [7] l (fun gk i wr => ∃ k m : Nat, k + gk = l ∧ i = .int .i64 k ∧ wr = w1.drewN m)
    case atStart => exact ⟨0, 0, by omega, rfl, rfl⟩
    case round =>
      obtain ⟨i, m, hi, rfl, rfl⟩ := hrel
      by_cases hil : i < l
      · obtain ⟨GK, hGK⟩ : ∃ GK, GK = gk := ⟨_, rfl⟩
        subst hGK
        obtain ⟨zi, hzi⟩ : ∃ z, zs[i]? = some z := ⟨_, List.getElem?_eq_getElem (by rw [HL.out]; exact hil)⟩
        have hbi := lenB_yes (HLB.out zi (List.mem_of_getElem? hzi))
        obtain ⟨n, rfl⟩ := Int.eq_ofNat_of_zero_le hbi.1
        obtain ⟨b, o, rfl, hbB, hc⟩ := HZ1.out (by rw [List.length_map, HL.out]; omega)
        have ci : w1.cell? ⟨b, o + i, none⟩ = some (.int .i64 (n : Int)) := hc i _ (by rw [List.getElem?_map, hzi]; rfl)
        have HC := Lib.hid hc
        have hn15 : n ≤ 15 := by omega
        have HZI := Lib.hid hzi
        obtain ⟨v, hv⟩ : ∃ v, (caV zs)[i]? = some v := ⟨_, List.getElem?_eq_getElem (by rw [HCL.out]; exact hil)⟩
        have cv : w1.cell? ⟨W0.heap.size, i, none⟩ = some (.int .i64 v) := ib_cell HI1.out hv
        have HVI := Lib.hid hv
        clear hc hbB hbi hzi hv
        go_wp2
        go_loopg [8] i (fun gk k wr => ∃ j m : Nat, j + gk = i ∧ k = .int .i64 j ∧ wr = w1.drewN m)
        case atStart => exact ⟨0, m, by omega, rfl, rfl⟩
        case round =>
          obtain ⟨j, m2, hj, rfl, rfl⟩ := hrel
          by_cases hji : j < i
          · obtain ⟨G2, hG2⟩ : ∃ G2, G2 = gk := ⟨_, rfl⟩
            subst hG2
            obtain ⟨zk, hzk⟩ : ∃ z, zs[j]? = some z := ⟨_, List.getElem?_eq_getElem (by rw [HL.out]; omega)⟩
            have hbk := lenB_yes (HLB.out zk (List.mem_of_getElem? hzk))
            obtain ⟨q, rfl⟩ := Int.eq_ofNat_of_zero_le hbk.1
            have cj : w1.cell? ⟨b, o + j, none⟩ = some (.int .i64 (q : Int)) := HC.out j _ (by rw [List.getElem?_map, hzk]; rfl)
            have hq15 : q ≤ 15 := by omega
            have HZK := Lib.hid hzk
            clear hbk hzk
            by_cases hn0 : n = 0
            · have t1 : (n == 0) = true := by simp [hn0]
              have t1' : ((n : Int) == 0) = true := by simp [hn0]
              clear hn0
              go_wp2
              go_roundg (G2 - 1)
              case measure => omega
              case rel => exact ⟨j + 1, _, by omega, by go_num, rfl⟩
            · have t1 : (n == 0) = false := by simp [hn0]
              have t1' : ((n : Int) == 0) = false := by simp; omega
              by_cases hq0 : q = 0
              · have t2 : (q == 0) = true := by simp [hq0]
                have t2' : ((q : Int) == 0) = true := by simp [hq0]
                clear hq0
                go_wp2
                go_roundg (G2 - 1)
                case measure => omega
                case rel => exact ⟨j + 1, _, by omega, by go_num, rfl⟩
              · have t2 : (q == 0) = false := by simp [hq0]
                have t2' : ((q : Int) == 0) = false := by simp; omega
                obtain ⟨vi, a, hsi⟩ := sym_of HZI.out (by omega) hn15
                obtain ⟨vk, a', hsk⟩ := sym_of HZK.out (by omega) hq15
                have HNE := Lib.hid (cut_apart hsi hsk (by omega))
                have hvi := hsi.lt HR.out
                have hvk := hsk.lt HR.out
                have hpi : (2 : Nat) ^ n ≤ 32768 := Nat.le_trans (Nat.pow_le_pow_right (by decide) hn15) (by decide)
                have hpk : (2 : Nat) ^ q ≤ 32768 := Nat.le_trans (Nat.pow_le_pow_right (by decide) hq15) (by decide)
                have hvi32 : vi < 32768 := by omega
                have hvk32 : vk < 32768 := by omega
                have cvi : w1.cell? ⟨W0.heap.size, i, none⟩ = some (.int .i64 (vi : Int)) := ib_cell HI1.out hsi.val
                have cvk : w1.cell? ⟨W0.heap.size, j, none⟩ = some (.int .i64 (vk : Int)) := ib_cell HI1.out hsk.val
                have hqi : n ≤ 15 ∧ q ≤ 15 ∧ 1 ≤ n ∧ 1 ≤ q := ⟨hn15, hq15, by omega, by omega⟩
                clear hsi hsk hvi hvk hpi hpk cv hn0 hq0
                go_upto_region 11 with (fail)
                go_region
                go_wp2
                obtain ⟨MM, hMM⟩ : ∃ MM, m2 + 1 = MM := ⟨_, rfl⟩
                rw [hMM]
                go_loopg [9, 11] (n - q) (fun gk s9 s11 wr => ∃ d nd X : Nat, d + gk = n - q ∧ nd + d = n ∧ X = vi / 2 ^ d ∧ X ≤ vi ∧ s9 = .int .i64 (X : Int) ∧ s11 = .int .i64 (nd : Int) ∧ wr = w1.drewN MM)
                case atStart => exact ⟨0, n, vi, by omega, rfl, by simp, Nat.le_refl _, rfl, rfl, rfl⟩
                case round =>
                  obtain ⟨d, nd, X, hd, hnd, hX, hXv, rfl, rfl, rfl⟩ := hrel
                  have HX := Lib.hid hX
                  have HND := Lib.hid hnd
                  clear hX
                  by_cases hdq : q < nd
                  · have HGD : Hid (1 ≤ gk ∧ d + gk = n - q) := ⟨by omega, hd⟩
                    have hnd15 : nd ≤ 15 := by omega
                    clear hd hnd
                    have hX2 : X / 2 ≤ vi := by omega
                    go_wp2
                    go_roundg (gk - 1)
                    case measure => have := HGD.out.1; omega
                    case rel => exact ⟨d + 1, nd - 1, X / 2, by have := HGD.out; omega, by have := HND.out; omega, by rw [HX.out, half_step], hX2, by go_num, by go_num, rfl⟩
                  · have hdd : d = n - q := by omega
                    have HXX : Hid (X = cutV vi n q) := by show _ = _; rw [HX.out, hdd]; rfl
                    clear hd hnd hdd
                    go_wp2
                    go_loopg [10, 12] (q - n) (fun gk s10 s12 wr => ∃ d nd Y : Nat, d + gk = q - n ∧ nd + d = q ∧ Y = vk / 2 ^ d ∧ Y ≤ vk ∧ s10 = .int .i64 (Y : Int) ∧ s12 = .int .i64 (nd : Int) ∧ wr = w1.drewN MM)
                    case atStart => exact ⟨0, q, vk, by omega, rfl, by simp, Nat.le_refl _, rfl, rfl, rfl⟩
                    case round =>
                      obtain ⟨d2, nd2, Y, hd2, hnd2, hY, hYv, rfl, rfl, rfl⟩ := hrel
                      have HY := Lib.hid hY
                      have HND2 := Lib.hid hnd2
                      clear hY
                      by_cases hdq2 : n < nd2
                      · have HGD : Hid (1 ≤ gk ∧ d2 + gk = q - n) := ⟨by omega, hd2⟩
                        have hnd15 : nd2 ≤ 15 := by omega
                        clear hd2 hnd2
                        have hY2 : Y / 2 ≤ vk := by omega
                        go_wp2
                        go_roundg (gk - 1)
                        case measure => have := HGD.out.1; omega
                        case rel => exact ⟨d2 + 1, nd2 - 1, Y / 2, by have := HGD.out; omega, by have := HND2.out; omega, by rw [HY.out, half_step], hY2, by go_num, by go_num, rfl⟩
                      · have hdd2 : d2 = q - n := by omega
                        have hYY : Y = cutV vk q n := by rw [HY.out, hdd2]; rfl
                        have hne : X ≠ Y := by rw [HXX.out, hYY]; exact HNE.out
                        have t5 : (X == Y) = false := by simp [hne]
                        have t5' : ((X : Int) == (Y : Int)) = false := by simp; omega
                        clear hd2 hnd2 hdd2 hYY hne
                        go_wp2
                        go_roundg (G2 - 1)
                        case measure => omega
                        case rel => exact ⟨j + 1, _, by omega, by go_num, rfl⟩
          · go_wp2
            go_roundg (GK - 1)
            case measure => omega
            case rel => exact ⟨i + 1, _, by omega, by go_num, rfl⟩
      · obtain rfl : i = l := by omega
        have HZM : Hid (Cells (w1.drewN m) W0.heap.size A (zs.map ic)) := HZ1.out
        have HBM := HBX.out m
        have HWZ : Hid (W0.heap.size ≤ (w1.drewN m).heap.size) := HB1.out.size
        have HBYM : Hid (Bytes (w1.drewN m) W0.heap.size (some ⟨w.heap.size, 0, none⟩) bs) := (show Cells w1 _ _ _ from HBY.out.below HB1.out (Nat.le_refl _))
        obtain ⟨wm, hwm⟩ : ∃ wm, w1.drewN m = wm := ⟨_, rfl⟩
        rw [hwm] at HZM HBM HWZ HBYM ⊢
        have HBM := Lib.hid HBM
        have HN := Lib.hid (new_any A i c zs _ wm HL.out (by omega) HZM.out HWZ.out HR.out)
        have HNR : Hid (∀ W : World, Below wm.heap.size wm W → _) := fun W hW => rnew_any (some ⟨w.heap.size, 0, none⟩) 2 2 W.heap.size bs W HBL.out (by omega) (Nat.le_refl _) ((HBYM.out.below hW HWZ.out).more (Nat.le_trans HWZ.out hW.size))
        have HSM : Hid (∀ W : World, Below wm.heap.size wm W → Calls Try.prog 24 #[.slice A i c] W fun e w' => e = .returned (.int .i64 (wsum zs : Nat)) ∧ W = w') := fun W hW => ref7Sum_any A i c zs W0.heap.size W HL.out (by omega) (HZM.out.below hW HWZ.out) HLB.out
        have HTK : Hid (∀ (W : World) (g rg B6 : Nat) (S7 : Nat → Prop), LC W g zs → RdS W rg B6 S7 bs 0 → Calls Try.prog 22 #[.pointer (some ⟨g, 0, none⟩), .pointer (some ⟨rg, 0, none⟩)] W
            fun e w' => (∃ s er : Int, e = .returned (.tuple #[.int .i64 s, .int .i64 er]) ∧ (er = 0 ∨ er ≠ 0 ∧ wsum zs ≠ 32768)) ∧ Mod (oneB rg) W w') := fun W g rg B6 S7 hlc hrd => by
          refine (take8_any g rg B6 zs S7 bs 0 W HR.out hlc hrd (by rw [HBL.out]; omega)).mono ?_
          rintro e w' ⟨m', on, s, er, rfl, hmx, htr, _, hmod⟩
          refine ⟨⟨s, er, rfl, ?_⟩, hmod⟩
          by_cases h0 : er = 0
          · exact .inl h0
          · refine .inr ⟨h0, fun hw => h0 (take_full hmx HR.out hw ?_ htr)⟩
            rw [List.length_drop, unpack_length, HBL.out]
            omega
        clear hwm HZ1 HBX HBY HB1 HI1
        go_upto_region 23 with (go_at_call 10; refine HN.out.mono ?_; rintro e w2 ⟨g, rfl, hlc, hg, hb2⟩; have HLC := Lib.hid hlc; have HG := Lib.hid hg; have HB2 := Lib.hid hb2; clear hlc hg hb2)
        clear HN HZM HBYM HWZ
        go_wp2_with fail
        refine (HNR.out _ HB2.out).mono ?_
        rintro e w3 ⟨rg, S7, rfl, hrd, hb3, hs3⟩
        have HRD := Lib.hid hrd
        have HB3 := Lib.hid hb3
        have HS3 := Lib.hid hs3
        have HLC3 := Lib.hid (HLC.out.below hb3)
        clear hrd hb3 hs3
        go_wp2_with fail
        refine (HTK.out _ _ _ _ _ HLC3.out HRD.out).mono ?_
        rintro e w5 ⟨⟨s, er, rfl, her⟩, hm5⟩
        have HER := Lib.hid her
        have HM5 := Lib.hid hm5
        clear her hm5
        have HRG : Hid (∀ k, oneB rg k → wm.heap.size ≤ k) := fun k hk => by
          cases hk
          obtain ⟨_, _, _, _, rfl, _⟩ := HRD.out
          have := HS3.out rg (.inl rfl)
          have := HB2.out.size
          omega
        have HB5 : Hid (Below w.heap.size w w5) := by
          have h3 := HB2.out.trans (HB3.out.mono HB2.out.size)
          have h5 := HM5.out.below h3 h3.size HRG.out
          exact HBM.out.trans (h5.mono HBM.out.size)
        have HS5 := Lib.hid (HSM.out w5 (by
          have h3 := HB2.out.trans (HB3.out.mono HB2.out.size)
          exact HM5.out.below h3 h3.size HRG.out))
        clear HRD HS3 HLC HLC3 HB2 HB3 HSM HTK HNR HM5 HRG HBM
        rcases HER.out with rfl | ⟨hne, hw⟩
        · go_wp2_with (go_at_call 7; refine (HLV.out _).mono ?_; rintro e w6 ⟨rfl, hb6⟩; have HB6 := Lib.hid hb6; clear hb6)
          go_ret
          exact ⟨rfl, HB5.out.trans (HB6.out.mono HB5.out.size)⟩
        · have t1 : (er == 0) = false := by simp [hne]
          have t2 : (((wsum zs : Nat) : Int) != 32768) = true := by simp; omega
          have t2' : ((wsum zs) != 32768) = true := by simp; omega
          obtain ⟨ws, hws⟩ : ∃ ws, wsum zs = ws := ⟨_, rfl⟩
          rw [hws] at t2 t2' HS5
          clear hne hw hws HER
          go_wp2_with (first
            | (go_at_call 24; refine HS5.out.mono ?_; rintro e w' ⟨rfl, rfl⟩)
            | (go_at_call 7; refine (HLV.out _).mono ?_; rintro e w6 ⟨rfl, hb6⟩; have HB6 := Lib.hid hb6; clear hb6))
          go_ret
          exact ⟨rfl, HB5.out.trans (HB6.out.mono HB5.out.size)⟩
end Go.Proofs.Ytjaeldollekhiaa
