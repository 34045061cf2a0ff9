/- Layer 7: the law WeighFull. -/
import Derived.Test.YtbhkaofgljpekaaWeiTh
import Derived.Test.YtbhkaofgljpekaaWeiLv
namespace Go.Proofs.Ytbhkaofgljpekaa
open Go.RowKit

set_option maxHeartbeats 1000000 in
theorem wfull_size (A : Option Addr) (l c : Nat) (w : World) (hl : 320 < l) (hm : l ≤ 9223372036854775807) :
    Calls Try.prog 6 #[.slice A l c] w fun e w' => e = .returned (.bool true) ∧ Below w.heap.size w w' := by
  have HS := Lib.hid (lengths_size A l c w hl hm)
  clear hl
  go_enter Try.func6, Try.ntmps6
  go_wp2_with (first
    | (go_at_call 9; refine HS.out.mono ?_; rintro e w1 ⟨rfl, rfl⟩)
    | (go_at_call 8; refine (lives7_any _).mono ?_; rintro e w1 ⟨rfl, hb1⟩; have HB1 := Lib.hid hb1; clear hb1))
  go_ret
  exact ⟨rfl, HB1.out⟩
set_option maxHeartbeats 1000000 in
theorem wfull_arg (A : Option Addr) (l c : Nat) (zs : List Int) (w : World) (hz : zs.length = l) (hl : l ≤ 320) (hb : Cells w w.heap.size A (zCs zs)) (hbad : zs.all wB = false) :
    Calls Try.prog 6 #[.slice A l c] w fun e w' => e = .returned (.bool true) ∧ Below w.heap.size w w' := by
  have HS := Lib.hid (lengths_arg A l c zs w.heap.size w hz hl hb hbad)
  clear hb hbad hz hl
  go_enter Try.func6, Try.ntmps6
  go_wp2_with (first
    | (go_at_call 9; refine HS.out.mono ?_; rintro e w1 ⟨rfl, rfl⟩)
    | (go_at_call 8; refine (lives7_any _).mono ?_; rintro e w1 ⟨rfl, hb1⟩; have HB1 := Lib.hid hb1; clear hb1))
  go_ret
  exact ⟨rfl, HB1.out⟩
set_option maxRecDepth 100000 in
set_option maxHeartbeats 4000000 in
theorem wfull_ok (A : Option Addr) (l c : Nat) (ns : List Nat) (w : World) (hz : ns.length = l) (hl : l ≤ 320) (hb : Cells w w.heap.size A (nCs ns)) (hok : ∀ n ∈ ns, n ≤ 1073741824) :
    Calls Try.prog 6 #[.slice A l c] w fun e w' => e = .returned (.bool true) ∧ Below w.heap.size w w' := by
  have HS := Lib.hid (lengths_ok A l c ns w.heap.size w hz hl hb (Nat.le_refl _) hok)
  obtain ⟨ls, hls⟩ : ∃ ls, lensW ns = ls := ⟨_, rfl⟩
  have HLL : Hid (ls.length = l) := by show _ = _; rw [← hls, lensW_len, hz]
  have HPO : Hid (∀ s x, ns[s]? = some x → (0 < ls.getD s 0 ↔ 0 < x) ∧ ls.getD s 0 ≤ 15) := fun s x hx => by rw [← hls]; exact lensW_pos (by omega) hx
  have HDO : Hid (∀ s t x y, ns[s]? = some x → ns[t]? = some y → 0 < x → x < y → ls.getD t 0 ≤ ls.getD s 0) := fun s t x y h1 h2 h3 h4 => by rw [← hls]; exact lensW_down (by omega) h1 h2 h3 h4
  have hfull := lensW_full (ns := ns) (by omega)
  rw [hls] at hfull HS
  have t2 : decide ((400 : Int) < (l : Int)) = false := by simp; omega
  have t3 : ((l : Int) != (l : Int)) = false := by simp
  have HZ := Lib.hid hz
  have HC := Lib.hid hb
  have HFU := Lib.hid hfull
  clear hb hok hls hfull hz
  go_enter Try.func6, Try.ntmps6
  go_wp2_with (go_at_call 9; refine HS.out.mono ?_; rintro e w1 ⟨A2, c2, rfl, ho2, hb2⟩; have HO2 := Lib.hid ho2; have HB2 := Lib.hid hb2; clear ho2 hb2)
  have HC1 := Lib.hid (HC.out.below HB2.out (Nat.le_refl _))
  have HC2 := Lib.hid (cells_of_ownK HO2.out).2
  go_loopg [5, 6] l (fun gk n i wr => ∃ k m : Nat, k + gk = l ∧ i = .int .i64 k ∧ n = .int .i64 ((itP ns k).length : Nat) ∧ wr = w1.drewN m)
  case atStart => exact ⟨0, 0, by omega, rfl, rfl, rfl⟩
  case round =>
    obtain ⟨k, m, hk, rfl, rfl, rfl⟩ := hrel
    have hpl := itP_len ns k
    by_cases h : k < l
    · obtain ⟨x, hx⟩ : ∃ x, ns[k]? = some x := ⟨_, List.getElem?_eq_getElem (by have := HZ.out; omega)⟩
      obtain ⟨a, ha⟩ : ∃ a, ls[k]? = some a := ⟨_, List.getElem?_eq_getElem (by have := HLL.out; omega)⟩
      obtain ⟨b, o, rfl, hbB, hc⟩ := HC1.out (by rw [nCs_len, HZ.out]; omega)
      obtain ⟨b2, o2, rfl, hbB2, hc2⟩ := HC2.out (by rw [nCs_len, HLL.out]; omega)
      have cx : w1.cell? ⟨b, o + k, none⟩ = some (.int .i64 (x : Int)) := hc k _ (nCs_at hx)
      have ca : w1.cell? ⟨b2, o2 + k, none⟩ = some (.int .i64 (a : Int)) := hc2 k _ (nCs_at ha)
      have HXA : Hid (∀ j, j < l → ∃ y d, ns[j]? = some y ∧ ls[j]? = some d ∧ w1.cell? ⟨b, o + j, none⟩ = some (.int .i64 (y : Int)) ∧ w1.cell? ⟨b2, o2 + j, none⟩ = some (.int .i64 (d : Int))) := fun j hj => by
        obtain ⟨y, hy⟩ : ∃ y, ns[j]? = some y := ⟨_, List.getElem?_eq_getElem (by have := HZ.out; omega)⟩
        obtain ⟨d, hd⟩ : ∃ d, ls[j]? = some d := ⟨_, List.getElem?_eq_getElem (by have := HLL.out; omega)⟩
        exact ⟨y, d, hy, hd, hc j _ (nCs_at hy), hc2 j _ (nCs_at hd)⟩
      have hga : ls.getD k 0 = a := by rw [List.getD, ha]; rfl
      obtain ⟨h1, h2⟩ := HPO.out k x hx
      rw [hga] at h1 h2
      have HX := Lib.hid hx
      have HGA := Lib.hid hga
      have u0 : decide ((15 : Int) < (a : Int)) = false := by simp; omega
      have u0' : decide (15 < a) = false := by simp; omega
      have HIY : Hid (0 < x → itP ns (k + 1) = itP ns k ++ [(x, k)]) := fun h0 => itP_yes hx h0
      have HIN : Hid (¬ 0 < x → itP ns (k + 1) = itP ns k) := fun h0 => itP_no hx h0
      obtain ⟨q, hq⟩ : ∃ q, (itP ns k).length = q := ⟨_, rfl⟩
      have HQ := Lib.hid hq
      rw [hq] at hpl ⊢
      clear hx ha hc hc2 hga hq
      obtain ⟨G, hG⟩ : ∃ G, G = gk := ⟨_, rfl⟩
      subst hG
      by_cases h0 : 0 < x
      · have u1 : decide ((0 : Int) < (x : Int)) = true := by simp; omega
        have u1' : decide (0 < x) = true := by simp; omega
        have u2 : decide ((0 : Int) < (a : Int)) = true := by simp; omega
        have u2' : decide (0 < a) = true := by simp; omega
        have HQ2 : Hid ((itP ns (k + 1)).length = q + 1) := by show _ = _; rw [HIY.out h0, List.length_append, HQ.out]; rfl
        have H0 := Lib.hid h0
        clear h1 h2 h0 HIY HIN
        go_wp2
        go_quiet (fail)
        go_wp2
        go_loopg [7] k (fun gj t wj => ∃ j mj : Nat, j + gj = k ∧ t = .int .i64 j ∧ wj = w1.drewN mj)
        case atStart => exact ⟨0, _, by omega, rfl, rfl⟩
        case round =>
          obtain ⟨j, mj, hj, rfl, rfl⟩ := hrel
          by_cases hjk : j < k
          · obtain ⟨y, d, hy, hd, cy, cd⟩ := HXA.out j (by omega)
            have hgd : ls.getD j 0 = d := by rw [List.getD, hd]; rfl
            have g1 := HDO.out j k y x hy HX.out
            have g2 := HDO.out k j x y HX.out hy
            rw [hgd, HGA.out] at g1 g2
            have hj0 : j < l := by omega
            have G1 := Lib.hid g1
            have G2 := Lib.hid g2
            clear hy hd hgd g1 g2
            by_cases hyx : y < x
            · have v1 : decide ((y : Int) < (x : Int)) = true := by simp; omega
              have v1' : decide (y < x) = true := by simp; omega
              have v2 : decide ((x : Int) < (y : Int)) = false := by simp; omega
              have v2' : decide (x < y) = false := by simp; omega
              by_cases hy0 : 0 < y
              · have v3 : decide ((0 : Int) < (y : Int)) = true := by simp; omega
                have v3' : decide (0 < y) = true := by simp; omega
                have v4 : decide ((d : Int) < (a : Int)) = false := by have := G1.out hy0 hyx; simp; omega
                have v4' : decide (d < a) = false := by have := G1.out hy0 hyx; simp; omega
                clear hyx hy0
                go_wp2
                go_quiet (fail)
                go_wp2
                go_roundg (gk - 1)
                case measure => omega
                case rel => exact ⟨j + 1, _, by omega, by go_num, rfl⟩
              · have v3 : decide ((0 : Int) < (y : Int)) = false := by simp; omega
                have v3' : decide (0 < y) = false := by simp; omega
                clear hyx hy0
                go_wp2
                go_quiet (fail)
                go_wp2
                go_roundg (gk - 1)
                case measure => omega
                case rel => exact ⟨j + 1, _, by omega, by go_num, rfl⟩
            · have v1 : decide ((y : Int) < (x : Int)) = false := by simp; omega
              have v1' : decide (y < x) = false := by simp; omega
              by_cases hxy : x < y
              · have v2 : decide ((x : Int) < (y : Int)) = true := by simp; omega
                have v2' : decide (x < y) = true := by simp; omega
                have v4 : decide ((a : Int) < (d : Int)) = false := by have := G2.out H0.out hxy; simp; omega
                have v4' : decide (a < d) = false := by have := G2.out H0.out hxy; simp; omega
                clear hyx hxy
                go_wp2
                go_quiet (fail)
                go_wp2
                go_roundg (gk - 1)
                case measure => omega
                case rel => exact ⟨j + 1, _, by omega, by go_num, rfl⟩
              · have v2 : decide ((x : Int) < (y : Int)) = false := by simp; omega
                have v2' : decide (x < y) = false := by simp; omega
                clear hyx hxy
                go_wp2
                go_quiet (fail)
                go_wp2
                go_roundg (gk - 1)
                case measure => omega
                case rel => exact ⟨j + 1, _, by omega, by go_num, rfl⟩
          · obtain rfl : j = k := by omega
            go_wp2
            go_roundg (G - 1)
            case measure => omega
            case rel => exact ⟨j + 1, _, by omega, by go_num, by rw [HQ2.out]; go_num, rfl⟩
      · have u1 : decide ((0 : Int) < (x : Int)) = false := by simp; omega
        have u1' : decide (0 < x) = false := by simp; omega
        have u2 : decide ((0 : Int) < (a : Int)) = false := by simp; omega
        have u2' : decide (0 < a) = false := by simp; omega
        have HQ2 : Hid ((itP ns (k + 1)).length = q) := by show _ = _; rw [HIN.out h0, HQ.out]
        have H0 := Lib.hid h0
        clear h1 h2 h0 HIY HIN
        go_wp2
        go_quiet (fail)
        go_wp2
        go_loopg [7] k (fun gj t wj => ∃ j mj : Nat, j + gj = k ∧ t = .int .i64 j ∧ wj = w1.drewN mj)
        case atStart => exact ⟨0, _, by omega, rfl, rfl⟩
        case round =>
          obtain ⟨j, mj, hj, rfl, rfl⟩ := hrel
          by_cases hjk : j < k
          · obtain ⟨y, d, hy, hd, cy, cd⟩ := HXA.out j (by omega)
            have hgd : ls.getD j 0 = d := by rw [List.getD, hd]; rfl
            have g1 := HDO.out j k y x hy HX.out
            have g2 := HDO.out k j x y HX.out hy
            rw [hgd, HGA.out] at g1 g2
            have hj0 : j < l := by omega
            have G1 := Lib.hid g1
            have G2 := Lib.hid g2
            clear hy hd hgd g1 g2
            by_cases hyx : y < x
            · have v1 : decide ((y : Int) < (x : Int)) = true := by simp; omega
              have v1' : decide (y < x) = true := by simp; omega
              have v2 : decide ((x : Int) < (y : Int)) = false := by simp; omega
              have v2' : decide (x < y) = false := by simp; omega
              by_cases hy0 : 0 < y
              · have v3 : decide ((0 : Int) < (y : Int)) = true := by simp; omega
                have v3' : decide (0 < y) = true := by simp; omega
                have v4 : decide ((d : Int) < (a : Int)) = false := by have := G1.out hy0 hyx; simp; omega
                have v4' : decide (d < a) = false := by have := G1.out hy0 hyx; simp; omega
                clear hyx hy0
                go_wp2
                go_quiet (fail)
                go_wp2
                go_roundg (gk - 1)
                case measure => omega
                case rel => exact ⟨j + 1, _, by omega, by go_num, rfl⟩
              · have v3 : decide ((0 : Int) < (y : Int)) = false := by simp; omega
                have v3' : decide (0 < y) = false := by simp; omega
                clear hyx hy0
                go_wp2
                go_quiet (fail)
                go_wp2
                go_roundg (gk - 1)
                case measure => omega
                case rel => exact ⟨j + 1, _, by omega, by go_num, rfl⟩
            · have v1 : decide ((y : Int) < (x : Int)) = false := by simp; omega
              have v1' : decide (y < x) = false := by simp; omega
              by_cases hxy : x < y
              · have v2 : decide ((x : Int) < (y : Int)) = true := by simp; omega
                have v2' : decide (x < y) = true := by simp; omega
                clear hyx hxy
                go_wp2
                go_quiet (fail)
                go_wp2
                go_roundg (gk - 1)
                case measure => omega
                case rel => exact ⟨j + 1, _, by omega, by go_num, rfl⟩
              · have v2 : decide ((x : Int) < (y : Int)) = false := by simp; omega
                have v2' : decide (x < y) = false := by simp; omega
                clear hyx hxy
                go_wp2
                go_quiet (fail)
                go_wp2
                go_roundg (gk - 1)
                case measure => omega
                case rel => exact ⟨j + 1, _, by omega, by go_num, rfl⟩
          · obtain rfl : j = k := by omega
            go_wp2
            go_roundg (G - 1)
            case measure => omega
            case rel => exact ⟨j + 1, _, by omega, by go_num, by rw [HQ2.out], rfl⟩
    · obtain rfl : k = l := by omega
      have hq : (itP ns k).length = (itemsW ns).length := by rw [itemsW, (sortW_perm _).length_eq, HZ.out]
      have HFC := Lib.hid (fun m => full_any A2 k c2 (zN ls) w1.heap.size (w1.drewN m) (by rw [zN_len, HLL.out]) (by omega) (by have := HC2.out; rw [zN_cs] at this; exact this))
      rw [HFU.out, ← hq] at HFC
      obtain ⟨q, hqq⟩ : ∃ q, (itP ns k).length = q := ⟨_, rfl⟩
      rw [hqq] at HFC hpl ⊢
      obtain ⟨f, hf⟩ : ∃ f, decide (2 ≤ q) = f := ⟨_, rfl⟩
      rw [hf] at HFC
      have u1 : decide ((1 : Int) < (q : Int)) = f := by rw [← hf, Bool.eq_iff_iff]; simp; omega
      have u2 : (f == f) = true := by simp
      clear hq hqq hf
      go_wp2_with (first
        | (go_at_call 14; refine (HFC.out _).mono ?_; rintro e w3 ⟨rfl, rfl⟩)
        | (go_at_call 8; refine (lives7_any _).mono ?_; rintro e w4 ⟨rfl, hb4⟩; have HB4 := Lib.hid hb4; clear hb4))
      go_ret
      exact ⟨rfl, (dnBelow HB2.out m).trans (HB4.out.mono HB2.out.size)⟩
end Go.Proofs.Ytbhkaofgljpekaa
