/- Layer 7: the laws WeighFull and WeighBest. -/
import Derived.Test.YtbhkaofgljpekaaWeiFl
namespace Go.Proofs.Ytbhkaofgljpekaa
open Go.RowKit

theorem zs_of {zs : List Int} (h : zs.all wB = true) : zN (zs.map Int.toNat) = zs ∧ ∀ n ∈ zs.map Int.toNat, n ≤ 1073741824 := by
  rw [List.all_eq_true] at h
  refine ⟨zN_of h (fun x hx => (wB_yes hx).1), fun n hn => ?_⟩
  obtain ⟨x, hx, rfl⟩ := List.mem_map.1 hn
  have := wB_yes (h x hx)
  omega
theorem wfull_law (A : Option Addr) (l c : Nat) (zs : List Int) (w : World) (hz : zs.length = l) (hm : l ≤ 9223372036854775807) (hb : Cells w w.heap.size A (zCs zs)) :
    Calls Try.prog 6 #[.slice A l c] w fun e w' => e = .returned (.bool true) ∧ Below w.heap.size w w' := by
  by_cases hl : 320 < l
  · exact wfull_size A l c w hl hm
  · cases hw : zs.all wB with
    | false => exact wfull_arg A l c zs w hz (by omega) hb hw
    | true =>
      obtain ⟨h1, h2⟩ := zs_of hw
      exact wfull_ok A l c (zs.map Int.toNat) w (by simpa using hz) (by omega) (by rw [zN_cs, h1]; exact hb) h2
set_option maxHeartbeats 1000000 in
theorem wbest_size (A1 A2 : Option Addr) (l1 l2 c1 c2 : Nat) (w : World) (hl : 320 < l1) (hm : l1 ≤ 9223372036854775807) :
    Calls Try.prog 7 #[.slice A1 l1 c1, .slice A2 l2 c2] w fun e w' => e = .returned (.bool true) ∧ Below w.heap.size w w' := by
  have HS := Lib.hid (lengths_size A1 l1 c1 w hl hm)
  clear hl
  go_enter Try.func7, Try.ntmps7
  go_wp2_with (first
    | (go_at_call 9; refine HS.out.mono ?_; rintro e w1 ⟨rfl, rfl⟩)
    | (go_at_call 8; refine (lives7_any _).mono ?_; rintro e w1 ⟨rfl, hb1⟩; have HB1 := Lib.hid hb1; clear hb1))
  go_ret
  exact ⟨rfl, HB1.out⟩
set_option maxHeartbeats 1000000 in
theorem wbest_arg (A1 A2 : Option Addr) (l1 l2 c1 c2 : Nat) (zs : List Int) (w : World) (hz : zs.length = l1) (hl : l1 ≤ 320) (hb : Cells w w.heap.size A1 (zCs zs)) (hbad : zs.all wB = false) :
    Calls Try.prog 7 #[.slice A1 l1 c1, .slice A2 l2 c2] w fun e w' => e = .returned (.bool true) ∧ Below w.heap.size w w' := by
  have HS := Lib.hid (lengths_arg A1 l1 c1 zs w.heap.size w hz hl hb hbad)
  clear hb hbad hz hl
  go_enter Try.func7, Try.ntmps7
  go_wp2_with (first
    | (go_at_call 9; refine HS.out.mono ?_; rintro e w1 ⟨rfl, rfl⟩)
    | (go_at_call 8; refine (lives7_any _).mono ?_; rintro e w1 ⟨rfl, hb1⟩; have HB1 := Lib.hid hb1; clear hb1))
  go_ret
  exact ⟨rfl, HB1.out⟩
set_option maxHeartbeats 1000000 in
theorem wbest_ne (A1 A2 : Option Addr) (l1 l2 c1 c2 : Nat) (ns : List Nat) (w : World) (hz : ns.length = l1) (hl : l1 ≤ 320) (hb : Cells w w.heap.size A1 (nCs ns)) (hok : ∀ n ∈ ns, n ≤ 1073741824) (hne : l2 ≠ l1) (_hm2 : l2 ≤ 9223372036854775807) :
    Calls Try.prog 7 #[.slice A1 l1 c1, .slice A2 l2 c2] w fun e w' => e = .returned (.bool true) ∧ Below w.heap.size w w' := by
  have HS := Lib.hid (lengths_ok A1 l1 c1 ns w.heap.size w hz hl hb (Nat.le_refl _) hok)
  have t2 : decide ((400 : Int) < (l1 : Int)) = false := by simp; omega
  have t3 : ((l2 : Int) != (l1 : Int)) = true := by simp; omega
  clear hb hok hz hne
  go_enter Try.func7, Try.ntmps7
  go_wp2_with (first
    | (go_at_call 9; refine HS.out.mono ?_; rintro e w7 ⟨A7, c7, rfl, ho7, hb7⟩; have HO7 := Lib.hid ho7; have HB7 := Lib.hid hb7; clear ho7 hb7)
    | (go_at_call 8; refine (lives7_any _).mono ?_; rintro e w1 ⟨rfl, hb1⟩; have HB1 := Lib.hid hb1; clear hb1))
  go_ret
  exact ⟨rfl, HB7.out.trans (HB1.out.mono HB7.out.size)⟩
set_option maxHeartbeats 1000000 in
theorem wbest_no (A1 A2 : Option Addr) (l1 l2 c1 c2 : Nat) (ns : List Nat) (w : World) (hz : ns.length = l1) (hl : l1 ≤ 320) (hb : Cells w w.heap.size A1 (nCs ns)) (hok : ∀ n ∈ ns, n ≤ 1073741824) (os : List Int) (hne : l2 = l1) (ho : os.length = l2) (h2 : Cells w w.heap.size A2 (zCs os)) (hf : fullB os = false) :
    Calls Try.prog 7 #[.slice A1 l1 c1, .slice A2 l2 c2] w fun e w' => e = .returned (.bool true) ∧ Below w.heap.size w w' := by
  have HS := Lib.hid (lengths_ok A1 l1 c1 ns w.heap.size w hz hl hb (Nat.le_refl _) hok)
  have t2 : decide ((400 : Int) < (l1 : Int)) = false := by simp; omega
  subst hne
  have t3 : ((l2 : Int) != (l2 : Int)) = false := by simp
  have HC2 := Lib.hid h2
  have HO := Lib.hid ho
  have HF := Lib.hid hf
  clear hb hok hz h2 ho hf
  go_enter Try.func7, Try.ntmps7
  go_wp2_with (first
    | (go_at_call 9; refine HS.out.mono ?_; rintro e w7 ⟨A7, c7, rfl, ho7, hb7⟩; have HO7 := Lib.hid ho7; have HB7 := Lib.hid hb7; have HFU := Lib.hid (full_any A2 l2 c2 os w.heap.size w7 HO.out (by omega) (HC2.out.below hb7 (Nat.le_refl _))); rw [HF.out] at HFU; clear ho7 hb7)
    | (go_at_call 14; refine HFU.out.mono ?_; rintro e w8 ⟨rfl, rfl⟩)
    | (go_at_call 8; refine (lives7_any _).mono ?_; rintro e w1 ⟨rfl, hb1⟩; have HB1 := Lib.hid hb1; clear hb1))
  go_ret
  exact ⟨rfl, HB7.out.trans (HB1.out.mono HB7.out.size)⟩
set_option maxRecDepth 100000 in
set_option maxHeartbeats 2000000 in
theorem wbest_yes (A1 A2 : Option Addr) (l c1 c2 : Nat) (ns os : List Nat) (w : World) (hz : ns.length = l) (hl : l ≤ 320) (hb : Cells w w.heap.size A1 (nCs ns)) (hok : ∀ n ∈ ns, n ≤ 1073741824) (ho : os.length = l) (h2 : Cells w w.heap.size A2 (nCs os)) (hf : fullB (zN os) = true) :
    Calls Try.prog 7 #[.slice A1 l c1, .slice A2 l c2] w fun e w' => e = .returned (.bool true) ∧ Below w.heap.size w w' := by
  have HS := Lib.hid (lengths_ok A1 l c1 ns w.heap.size w hz hl hb (Nat.le_refl _) hok)
  have t2 : decide ((400 : Int) < (l : Int)) = false := by simp; omega
  have t3 : ((l : Int) != (l : Int)) = false := by simp
  have HC1 := Lib.hid hb
  have HC2 := Lib.hid h2
  have HO := Lib.hid ho
  have HZ := Lib.hid hz
  have HF := Lib.hid hf
  have HOK := Lib.hid hok
  obtain ⟨ls, hls⟩ : ∃ ls, lensW ns = ls := ⟨_, rfl⟩
  have HLS := Lib.hid hls
  have HLL : Hid (ls.length = l) := by show _ = _; rw [← hls, lensW_len, hz]
  rw [hls] at HS
  clear hb h2 ho hz hf hok hls
  go_enter Try.func7, Try.ntmps7
  go_wp2_with (first
    | (go_at_call 9; refine HS.out.mono ?_; rintro e w7 ⟨A7, c7, rfl, ho7, hb7⟩; have HO7 := Lib.hid ho7; have HB7 := Lib.hid hb7; have HFU := Lib.hid (full_any A2 l c2 (zN os) w.heap.size w7 (by rw [zN_len, HO.out]) (by omega) (by have := HC2.out.below hb7 (Nat.le_refl _); rw [zN_cs] at this; exact this)); rw [HF.out] at HFU; clear ho7 hb7)
    | (go_at_call 14; refine HFU.out.mono ?_; rintro e w8 ⟨rfl, rfl⟩))
  have HD1 := Lib.hid (HC1.out.below HB7.out (Nat.le_refl _))
  have HD2 := Lib.hid (HC2.out.below HB7.out (Nat.le_refl _))
  have HD7 := Lib.hid (cells_of_ownK HO7.out).2
  have HSZ := Lib.hid HB7.out.size
  go_loopg [7] l (fun gk i wr => ∃ k m : Nat, k + gk = l ∧ i = .int .i64 k ∧ wr = w7.drewN m ∧ ∀ j x, j < k → ns[j]? = some x → (0 < os.getD j 0 ↔ 0 < x))
  case atStart => exact ⟨0, 0, by omega, rfl, rfl, fun j x h => absurd h (Nat.not_lt_zero j)⟩
  case round =>
    obtain ⟨k, m, hk, rfl, rfl, hall⟩ := hrel
    have HALL := Lib.hid hall
    clear hall
    by_cases h : k < l
    · obtain ⟨x, hx⟩ : ∃ x, ns[k]? = some x := ⟨_, List.getElem?_eq_getElem (by have := HZ.out; omega)⟩
      obtain ⟨a, ha⟩ : ∃ a, os[k]? = some a := ⟨_, List.getElem?_eq_getElem (by have := HO.out; omega)⟩
      obtain ⟨b, o, rfl, hbB, hc⟩ := HD1.out (by rw [nCs_len, HZ.out]; omega)
      obtain ⟨b2, o2, rfl, hbB2, hc2⟩ := HD2.out (by rw [nCs_len, HO.out]; omega)
      have cx : w7.cell? ⟨b, o + k, none⟩ = some (.int .i64 (x : Int)) := hc k _ (nCs_at hx)
      have ca : w7.cell? ⟨b2, o2 + k, none⟩ = some (.int .i64 (a : Int)) := hc2 k _ (nCs_at ha)
      have HX := Lib.hid hx
      have HGA : Hid (os.getD k 0 = a) := by show _ = _; rw [List.getD, ha]; rfl
      clear hx ha hc hc2
      by_cases hx0 : 0 < x
      · by_cases ha0 : 0 < a
        · have u1 : decide ((0 : Int) < (x : Int)) = true := by simp; omega
          have u1' : decide (0 < x) = true := by simp; omega
          have u2 : decide ((0 : Int) < (a : Int)) = true := by simp; omega
          have u2' : decide (0 < a) = true := by simp; omega
          have HI : Hid (0 < a ↔ 0 < x) := ⟨fun _ => by omega, fun _ => by omega⟩
          clear hx0 ha0
          go_wp2
          go_quiet (fail)
          go_wp2
          go_roundg (gk - 1)
          case measure => omega
          case rel => exact ⟨k + 1, m + nq, by omega, by go_num, rfl, fun j y hj hy => by
              by_cases e : j = k
              · subst e
                rw [HX.out] at hy
                injection hy with hy
                subst hy
                rw [HGA.out]
                exact HI.out
              · exact HALL.out j y (by omega) hy⟩
        · have u1 : decide ((0 : Int) < (x : Int)) = true := by simp; omega
          have u1' : decide (0 < x) = true := by simp; omega
          have u2 : decide ((0 : Int) < (a : Int)) = false := by simp; omega
          have u2' : decide (0 < a) = false := by simp; omega
          clear hx0 ha0
          go_wp2
          go_quiet (fail)
          go_wp2_with (go_at_call 8; refine (lives7_any _).mono ?_; rintro e w9 ⟨rfl, hb9⟩; have HB9 := Lib.hid hb9; clear hb9)
          go_ret
          exact ⟨rfl, (dnBelow HB7.out _).trans (HB9.out.mono HSZ.out)⟩
      · by_cases ha0 : 0 < a
        · have u1 : decide ((0 : Int) < (x : Int)) = false := by simp; omega
          have u1' : decide (0 < x) = false := by simp; omega
          have u2 : decide ((0 : Int) < (a : Int)) = true := by simp; omega
          have u2' : decide (0 < a) = true := by simp; omega
          clear hx0 ha0
          go_wp2
          go_quiet (fail)
          go_wp2_with (go_at_call 8; refine (lives7_any _).mono ?_; rintro e w9 ⟨rfl, hb9⟩; have HB9 := Lib.hid hb9; clear hb9)
          go_ret
          exact ⟨rfl, (dnBelow HB7.out _).trans (HB9.out.mono HSZ.out)⟩
        · have u1 : decide ((0 : Int) < (x : Int)) = false := by simp; omega
          have u1' : decide (0 < x) = false := by simp; omega
          have u2 : decide ((0 : Int) < (a : Int)) = false := by simp; omega
          have u2' : decide (0 < a) = false := by simp; omega
          have HI : Hid (0 < a ↔ 0 < x) := ⟨fun _ => by omega, fun _ => by omega⟩
          clear hx0 ha0
          go_wp2
          go_quiet (fail)
          go_wp2
          go_roundg (gk - 1)
          case measure => omega
          case rel => exact ⟨k + 1, m + nq, by omega, by go_num, rfl, fun j y hj hy => by
              by_cases e : j = k
              · subst e
                rw [HX.out] at hy
                injection hy with hy
                subst hy
                rw [HGA.out]
                exact HI.out
              · exact HALL.out j y (by omega) hy⟩
    · obtain rfl : k = l := by omega
      have hpo : ∀ s x, ns[s]? = some x → (0 < os.getD s 0 ↔ 0 < x) := fun s x hx => HALL.out s x (by have := (List.getElem?_eq_some_iff.1 hx).1; have := HZ.out; omega) hx
      have hfu := HF.out
      simp only [fullB, Bool.and_eq_true, decide_eq_true_eq, List.all_eq_true] at hfu
      have h15 : ∀ s, os.getD s 0 ≤ 15 := fun s => by
        rw [List.getD]
        cases hs : os[s]? with
        | none => exact Nat.zero_le _
        | some v =>
          have := lenB_yes (hfu.1.2 (v : Int) (List.mem_of_getElem? (zN_at hs)))
          show v ≤ 15
          omega
      have hbest := lensW_best (ns := ns) (os := os) (by have := HZ.out; omega) (by rw [HO.out, HZ.out]) hpo h15 hfu.2
      rw [HLS.out, HZ.out] at hbest
      have hcw : ∀ x ∈ zN ns, wB x = true := fun x hx => by
        obtain ⟨n, hn, rfl⟩ := List.mem_map.1 hx
        have := HOK.out n hn
        simp [wB]; omega
      have hb1 : costB (zN ns) (zN ls) = true := by
        have h1 : (zN ns).all wB = true := List.all_eq_true.2 hcw
        have h2 : (zN ls).all lenB = true := List.all_eq_true.2 (by rw [← HLS.out]; exact lensW_right (by have := HZ.out; omega))
        rw [costB, h1, h2, zN_len, zN_len, HLL.out, HZ.out]
        simp; omega
      have hb2 : costB (zN ns) (zN os) = true := by
        have h1 : (zN ns).all wB = true := List.all_eq_true.2 hcw
        have h2 : (zN os).all lenB = true := List.all_eq_true.2 hfu.1.2
        rw [costB, h1, h2, zN_len, zN_len, HO.out, HZ.out]
        simp; omega
      have HK1 := Lib.hid (fun m => cost_ok A1 A7 k c1 c7 (zN ns) (zN ls) w7.heap.size (w7.drewN m) (by rw [zN_len, HZ.out]) (by rw [zN_len, HLL.out]) (by have := HD1.out.more HSZ.out; rw [zN_cs] at this; exact this) (by have := HD7.out; rw [zN_cs] at this; exact this) hb1)
      have HK2 := Lib.hid (fun m => cost_ok A1 A2 k c1 c2 (zN ns) (zN os) w7.heap.size (w7.drewN m) (by rw [zN_len, HZ.out]) (by rw [zN_len, HO.out]) (by have := HD1.out.more HSZ.out; rw [zN_cs] at this; exact this) (by have := HD2.out.more HSZ.out; rw [zN_cs] at this; exact this) hb2)
      obtain ⟨v1, hv1⟩ : ∃ v, csum (zN ns) (zN ls) k = v := ⟨_, rfl⟩
      obtain ⟨v2, hv2⟩ : ∃ v, csum (zN ns) (zN os) k = v := ⟨_, rfl⟩
      rw [hv1] at HK1 hbest
      rw [hv2] at HK2 hbest
      have u5 : decide (v1 ≤ v2) = true := decide_eq_true hbest
      clear hpo hfu h15 hbest hcw hb1 hb2 hv1 hv2
      go_wp2_with (first
        | (go_at_call 13; refine (HK1.out _).mono ?_; rintro e w5 ⟨rfl, m5, rfl⟩; clear HK1)
        | (go_at_call 13; refine (HK2.out _).mono ?_; rintro e w6 ⟨rfl, m6, rfl⟩; clear HK2)
        | (go_at_call 8; refine (lives7_any _).mono ?_; rintro e w9 ⟨rfl, hb9⟩; have HB9 := Lib.hid hb9; clear hb9))
      go_ret
      exact ⟨rfl, (dnBelow HB7.out _).trans (HB9.out.mono HSZ.out)⟩
theorem wbest_law (A1 A2 : Option Addr) (l1 l2 c1 c2 : Nat) (zs os : List Int) (w : World) (hz : zs.length = l1) (ho : os.length = l2) (hm1 : l1 ≤ 9223372036854775807) (hm2 : l2 ≤ 9223372036854775807) (h1 : Cells w w.heap.size A1 (zCs zs)) (h2 : Cells w w.heap.size A2 (zCs os)) :
    Calls Try.prog 7 #[.slice A1 l1 c1, .slice A2 l2 c2] w fun e w' => e = .returned (.bool true) ∧ Below w.heap.size w w' := by
  by_cases hl : 320 < l1
  · exact wbest_size A1 A2 l1 l2 c1 c2 w hl hm1
  · cases hw : zs.all wB with
    | false => exact wbest_arg A1 A2 l1 l2 c1 c2 zs w hz (by omega) h1 hw
    | true =>
      obtain ⟨e1, e2⟩ := zs_of hw
      have hz' : (zs.map Int.toNat).length = l1 := by simpa using hz
      have h1' : Cells w w.heap.size A1 (nCs (zs.map Int.toNat)) := by rw [zN_cs, e1]; exact h1
      by_cases hne : l2 = l1
      · cases hf : fullB os with
        | false => exact wbest_no A1 A2 l1 l2 c1 c2 _ w hz' (by omega) h1' e2 os hne ho h2 hf
        | true =>
          subst hne
          have hfu := hf
          simp only [fullB, Bool.and_eq_true, decide_eq_true_eq, List.all_eq_true] at hfu
          have e3 : zN (os.map Int.toNat) = os := zN_of hfu.1.2 (fun x hx => (lenB_yes hx).1)
          exact wbest_yes A1 A2 l2 c1 c2 _ (os.map Int.toNat) w hz' (by omega) h1' e2 (by simpa using ho) (by rw [zN_cs, e3]; exact h2) (by rw [e3]; exact hf)
      · exact wbest_ne A1 A2 l1 l2 c1 c2 _ w hz' (by omega) h1' e2 hne hm2
end Go.Proofs.Ytbhkaofgljpekaa
