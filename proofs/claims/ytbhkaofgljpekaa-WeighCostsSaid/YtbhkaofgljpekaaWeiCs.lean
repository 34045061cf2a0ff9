/- Layer 7: the law WeighCosts, walked. -/
import Derived.Test.YtbhkaofgljpekaaWeiMx
namespace Go.Proofs.Ytbhkaofgljpekaa
open Go.RowKit

theorem r7B_def (zs : List Int) : r7B zs = (decide (zs.length ≤ 320) && zs.all lenB) := rfl
theorem r7W_def (zs : List Int) : r7W zs = (decide (zs.length ≤ 320) && zs.all wB) := rfl
theorem full_no {ls : List Int} (h : r7B ls = false) : fullB ls = false := by
  rw [fullB, ← r7B_def, h]
  rfl
theorem full_yes {ls : List Int} (h : r7B ls = true) : fullB ls = decide (wsum ls = 32768) := by
  rw [fullB, ← r7B_def, h]
  rfl
theorem cost_no1 {ws ls : List Int} (h : r7B ls = false) : costB ws ls = false := by
  rw [r7B_def] at h
  rw [costB]
  cases h1 : ls.all lenB with
  | false => simp
  | true =>
    rw [h1] at h
    have h2 : ¬ ls.length ≤ 320 := by simpa using h
    by_cases h3 : ws.length = ls.length
    · rw [decide_eq_false (show ¬ ws.length ≤ 320 by omega)]
      simp
    · rw [decide_eq_false h3]
      simp
theorem cost_no2 {ws ls : List Int} (h : ws.length ≠ ls.length) : costB ws ls = false := by
  rw [costB, decide_eq_false h]
  simp
theorem cost_no3 {ws ls : List Int} (h : r7W ws = false) : costB ws ls = false := by
  rw [costB]
  rw [r7W_def] at h
  cases h1 : ws.all wB with
  | false => simp
  | true =>
    rw [h1] at h
    have h2 : ¬ ws.length ≤ 320 := by simpa using h
    rw [decide_eq_false h2]
    simp
theorem cost_yes {ws ls : List Int} (h : r7B ls = true) (he : ws.length = ls.length) (hw : r7W ws = true) : costB ws ls = true := by
  rw [r7B_def] at h
  rw [r7W_def] at hw
  simp only [Bool.and_eq_true, decide_eq_true_eq] at h hw
  rw [costB, decide_eq_true he, decide_eq_true hw.1, h.2, hw.2]
  rfl
theorem r7B_lens {ls : List Int} (h : r7B ls = true) : ls.length ≤ 320 ∧ ∀ x ∈ ls, lenB x = true := by
  rw [r7B_def] at h
  simpa using h
set_option maxRecDepth 100000 in
set_option maxHeartbeats 2000000 in
theorem costs_no1 (A1 A2 : Option Addr) (l1 l2 c1 c2 : Nat) (ws ls : List Int) (w : World) (hw : ws.length = l1) (hl : ls.length = l2) (hm1 : l1 ≤ 400) (hm2 : l2 ≤ 400) (h1 : Cells w w.heap.size A1 (zCs ws)) (h2 : Cells w w.heap.size A2 (zCs ls)) (hr : r7B ls = false) :
    Calls Try.prog 4 #[.slice A1 l1 c1, .slice A2 l2 c2] w fun e w' => e = .returned (.bool true) ∧ Below w.heap.size w w' := by
  have t1 : decide ((400 : Int) < (l1 : Int)) = false := by simp; omega
  have t2 : decide ((400 : Int) < (l2 : Int)) = false := by simp; omega
  have HFU := Lib.hid (fun m => full_any A2 l2 c2 ls w.heap.size (w.drewN m) hl (by omega) (h2 : Cells (w.drewN m) w.heap.size A2 (zCs ls)))
  have HRL := Lib.hid (fun m => ref7Right_any A2 l2 c2 ls w.heap.size (w.drewN m) hl (by omega) (h2 : Cells (w.drewN m) w.heap.size A2 (zCs ls)))
  have HLO := Lib.hid (fun m => longest_all A2 l2 c2 ls w.heap.size (w.drewN m) hl (by omega) (h2 : Cells (w.drewN m) w.heap.size A2 (zCs ls)))
  rw [hr] at HRL
  rw [full_no hr] at HFU
  have HCO := Lib.hid (cost_no A1 A2 l1 l2 c1 c2 ws ls w.heap.size w hw hl (by omega) (by omega) h1 h2 (cost_no1 hr))
  have H1 := Lib.hid h1
  have H2 := Lib.hid h2
  have HL := Lib.hid hl
  have HW := Lib.hid hw
  clear h1 h2 hl hw hr
  go_enter Try.func4, Try.ntmps4
  go_wp2_with (first
    | (go_at_call 13; refine HCO.out.mono ?_; rintro e w1 ⟨rfl, m1, rfl⟩)
    | (go_at_call 10; refine (HRL.out _).mono ?_; rintro e w2 ⟨rfl, rfl⟩)
    | (go_at_call 14; refine (HFU.out _).mono ?_; rintro e w3 ⟨rfl, rfl⟩))
  go_loopg [8, 9, 10] l2 (fun gk sm mo i wr => ∃ k m : Nat, k + gk = l2 ∧ i = .int .i64 k ∧ sm = .int .i64 (0) ∧ mo = .int .i64 (mst ls k) ∧ wr = w.drewN m)
  case atStart => exact ⟨0, m1, by omega, rfl, rfl, rfl, rfl⟩
  case round =>
    obtain ⟨k, m, hk, rfl, rfl, rfl, rfl⟩ := hrel
    by_cases h : k < l2
    · obtain ⟨y, hy⟩ : ∃ y, ls[k]? = some y := ⟨_, List.getElem?_eq_getElem (by have := HL.out; omega)⟩
      obtain ⟨b2, o2, rfl, hbB2, hc2⟩ := H2.out (by rw [zCs_len, HL.out]; omega)
      have cy : w.cell? ⟨b2, o2 + k, none⟩ = some (.int .i64 y) := hc2 k _ (zCs_at hy)
      have HM : Hid (mst ls (k + 1) = if k = 0 ∨ mst ls k < y then y else mst ls k) := by show _ = _; rw [mst, List.getD, hy]; rfl
      obtain ⟨mo, hmo⟩ : ∃ mo, mst ls k = mo := ⟨_, rfl⟩
      rw [hmo] at HM ⊢
      clear hy hc2 hmo
      by_cases hk0 : k = 0
      · have u1 : ((k : Int) == 0) = true := by simp [hk0]
        rw [if_pos (.inl hk0)] at HM
        clear hk0
        go_wp2
        go_roundg (gk - 1)
        case measure => omega
        case rel => exact ⟨k + 1, m, by omega, by go_num, rfl, by rw [HM.out], rfl⟩
      · have u1 : ((k : Int) == 0) = false := by simp [hk0]
        by_cases hmy : mo < y
        · have u2 : decide (mo < y) = true := decide_eq_true hmy
          rw [if_pos (.inr hmy)] at HM
          clear hk0 hmy
          go_wp2
          go_roundg (gk - 1)
          case measure => omega
          case rel => exact ⟨k + 1, m, by omega, by go_num, rfl, by rw [HM.out], rfl⟩
        · have u2 : decide (mo < y) = false := decide_eq_false hmy
          rw [if_neg (by omega)] at HM
          clear hk0 hmy
          go_wp2
          go_roundg (gk - 1)
          case measure => omega
          case rel => exact ⟨k + 1, m, by omega, by go_num, rfl, by rw [HM.out], rfl⟩
    · obtain rfl : k = l2 := by omega
      obtain ⟨mo, hmo⟩ : ∃ mo, mst ls k = mo := ⟨_, rfl⟩
      rw [hmo] at HLO ⊢
      have u4 : (mo == mo) = true := by simp
      clear hmo
      go_wp2_with (first
        | (go_at_call 16; refine (HLO.out _).mono ?_; rintro e w5 ⟨rfl, rfl⟩)
        | (go_at_call 8; refine (lives7_any _).mono ?_; rintro e w6 ⟨rfl, hb6⟩; have HB6 := Lib.hid hb6; clear hb6))
      go_ret
      exact ⟨rfl, (dnBelow (Below.refl _ _) m).trans HB6.out⟩
set_option maxRecDepth 100000 in
set_option maxHeartbeats 2000000 in
theorem costs_no2 (A1 A2 : Option Addr) (l1 l2 c1 c2 : Nat) (ws ls : List Int) (w : World) (hw : ws.length = l1) (hl : ls.length = l2) (hm1 : l1 ≤ 400) (hm2 : l2 ≤ 400) (h1 : Cells w w.heap.size A1 (zCs ws)) (h2 : Cells w w.heap.size A2 (zCs ls)) (hr : r7B ls = true) (hne : l1 ≠ l2) :
    Calls Try.prog 4 #[.slice A1 l1 c1, .slice A2 l2 c2] w fun e w' => e = .returned (.bool true) ∧ Below w.heap.size w w' := by
  have t1 : decide ((400 : Int) < (l1 : Int)) = false := by simp; omega
  have t2 : decide ((400 : Int) < (l2 : Int)) = false := by simp; omega
  have HFU := Lib.hid (fun m => full_any A2 l2 c2 ls w.heap.size (w.drewN m) hl (by omega) (h2 : Cells (w.drewN m) w.heap.size A2 (zCs ls)))
  have HRL := Lib.hid (fun m => ref7Right_any A2 l2 c2 ls w.heap.size (w.drewN m) hl (by omega) (h2 : Cells (w.drewN m) w.heap.size A2 (zCs ls)))
  have HLO := Lib.hid (fun m => longest_all A2 l2 c2 ls w.heap.size (w.drewN m) hl (by omega) (h2 : Cells (w.drewN m) w.heap.size A2 (zCs ls)))
  rw [hr] at HRL
  have HSU := Lib.hid (fun m => ref7Sum_any A2 l2 c2 ls w.heap.size (w.drewN m) hl (by omega) (h2 : Cells (w.drewN m) w.heap.size A2 (zCs ls)) (r7B_lens hr).2)
  obtain ⟨su, hsu⟩ : ∃ su, wsum ls = su := ⟨_, rfl⟩
  rw [full_yes hr, hsu] at HFU
  rw [hsu] at HSU
  obtain ⟨f, hf⟩ : ∃ f, decide (su = 32768) = f := ⟨_, rfl⟩
  rw [hf] at HFU
  have t3 : ((su : Int) == 32768) = f := by rw [← hf, Bool.eq_iff_iff]; simp; omega
  have t4 : (f != f) = false := by simp
  clear hf hsu
  have t5 : ((l1 : Int) == (l2 : Int)) = false := by simp; omega
  have HCO := Lib.hid (cost_no A1 A2 l1 l2 c1 c2 ws ls w.heap.size w hw hl (by omega) (by omega) h1 h2 (cost_no2 (by omega)))
  have H1 := Lib.hid h1
  have H2 := Lib.hid h2
  have HL := Lib.hid hl
  have HW := Lib.hid hw
  clear h1 h2 hl hw hr
  clear hne
  go_enter Try.func4, Try.ntmps4
  go_wp2_with (first
    | (go_at_call 13; refine HCO.out.mono ?_; rintro e w1 ⟨rfl, m1, rfl⟩)
    | (go_at_call 10; refine (HRL.out _).mono ?_; rintro e w2 ⟨rfl, rfl⟩)
    | (go_at_call 14; refine (HFU.out _).mono ?_; rintro e w3 ⟨rfl, rfl⟩)
    | (go_at_call 15; refine (HSU.out _).mono ?_; rintro e w4 ⟨rfl, rfl⟩))
  go_loopg [8, 9, 10] l2 (fun gk sm mo i wr => ∃ k m : Nat, k + gk = l2 ∧ i = .int .i64 k ∧ sm = .int .i64 (0) ∧ mo = .int .i64 (mst ls k) ∧ wr = w.drewN m)
  case atStart => exact ⟨0, m1, by omega, rfl, rfl, rfl, rfl⟩
  case round =>
    obtain ⟨k, m, hk, rfl, rfl, rfl, rfl⟩ := hrel
    by_cases h : k < l2
    · obtain ⟨y, hy⟩ : ∃ y, ls[k]? = some y := ⟨_, List.getElem?_eq_getElem (by have := HL.out; omega)⟩
      obtain ⟨b2, o2, rfl, hbB2, hc2⟩ := H2.out (by rw [zCs_len, HL.out]; omega)
      have cy : w.cell? ⟨b2, o2 + k, none⟩ = some (.int .i64 y) := hc2 k _ (zCs_at hy)
      have HM : Hid (mst ls (k + 1) = if k = 0 ∨ mst ls k < y then y else mst ls k) := by show _ = _; rw [mst, List.getD, hy]; rfl
      obtain ⟨mo, hmo⟩ : ∃ mo, mst ls k = mo := ⟨_, rfl⟩
      rw [hmo] at HM ⊢
      clear hy hc2 hmo
      by_cases hk0 : k = 0
      · have u1 : ((k : Int) == 0) = true := by simp [hk0]
        rw [if_pos (.inl hk0)] at HM
        clear hk0
        go_wp2
        go_roundg (gk - 1)
        case measure => omega
        case rel => exact ⟨k + 1, m, by omega, by go_num, rfl, by rw [HM.out], rfl⟩
      · have u1 : ((k : Int) == 0) = false := by simp [hk0]
        by_cases hmy : mo < y
        · have u2 : decide (mo < y) = true := decide_eq_true hmy
          rw [if_pos (.inr hmy)] at HM
          clear hk0 hmy
          go_wp2
          go_roundg (gk - 1)
          case measure => omega
          case rel => exact ⟨k + 1, m, by omega, by go_num, rfl, by rw [HM.out], rfl⟩
        · have u2 : decide (mo < y) = false := decide_eq_false hmy
          rw [if_neg (by omega)] at HM
          clear hk0 hmy
          go_wp2
          go_roundg (gk - 1)
          case measure => omega
          case rel => exact ⟨k + 1, m, by omega, by go_num, rfl, by rw [HM.out], rfl⟩
    · obtain rfl : k = l2 := by omega
      obtain ⟨mo, hmo⟩ : ∃ mo, mst ls k = mo := ⟨_, rfl⟩
      rw [hmo] at HLO ⊢
      have u4 : (mo == mo) = true := by simp
      clear hmo
      go_wp2_with (first
        | (go_at_call 16; refine (HLO.out _).mono ?_; rintro e w5 ⟨rfl, rfl⟩)
        | (go_at_call 8; refine (lives7_any _).mono ?_; rintro e w6 ⟨rfl, hb6⟩; have HB6 := Lib.hid hb6; clear hb6))
      go_ret
      exact ⟨rfl, (dnBelow (Below.refl _ _) m).trans HB6.out⟩
set_option maxRecDepth 100000 in
set_option maxHeartbeats 2000000 in
theorem costs_no3 (A1 A2 : Option Addr) (l1 l2 c1 c2 : Nat) (ws ls : List Int) (w : World) (hw : ws.length = l1) (hl : ls.length = l2) (hm1 : l1 ≤ 400) (hm2 : l2 ≤ 400) (h1 : Cells w w.heap.size A1 (zCs ws)) (h2 : Cells w w.heap.size A2 (zCs ls)) (hr : r7B ls = true) (hne : l1 = l2) (hrw : r7W ws = false) :
    Calls Try.prog 4 #[.slice A1 l1 c1, .slice A2 l2 c2] w fun e w' => e = .returned (.bool true) ∧ Below w.heap.size w w' := by
  have t1 : decide ((400 : Int) < (l1 : Int)) = false := by simp; omega
  have t2 : decide ((400 : Int) < (l2 : Int)) = false := by simp; omega
  have HFU := Lib.hid (fun m => full_any A2 l2 c2 ls w.heap.size (w.drewN m) hl (by omega) (h2 : Cells (w.drewN m) w.heap.size A2 (zCs ls)))
  have HRL := Lib.hid (fun m => ref7Right_any A2 l2 c2 ls w.heap.size (w.drewN m) hl (by omega) (h2 : Cells (w.drewN m) w.heap.size A2 (zCs ls)))
  have HLO := Lib.hid (fun m => longest_all A2 l2 c2 ls w.heap.size (w.drewN m) hl (by omega) (h2 : Cells (w.drewN m) w.heap.size A2 (zCs ls)))
  rw [hr] at HRL
  have HSU := Lib.hid (fun m => ref7Sum_any A2 l2 c2 ls w.heap.size (w.drewN m) hl (by omega) (h2 : Cells (w.drewN m) w.heap.size A2 (zCs ls)) (r7B_lens hr).2)
  obtain ⟨su, hsu⟩ : ∃ su, wsum ls = su := ⟨_, rfl⟩
  rw [full_yes hr, hsu] at HFU
  rw [hsu] at HSU
  obtain ⟨f, hf⟩ : ∃ f, decide (su = 32768) = f := ⟨_, rfl⟩
  rw [hf] at HFU
  have t3 : ((su : Int) == 32768) = f := by rw [← hf, Bool.eq_iff_iff]; simp; omega
  have t4 : (f != f) = false := by simp
  clear hf hsu
  subst hne
  have HRW := Lib.hid (fun m => ref7RightW_any A1 l1 c1 ws w.heap.size (w.drewN m) hw (by omega) (h1 : Cells (w.drewN m) w.heap.size A1 (zCs ws)))
  rw [hrw] at HRW
  have t5 : ((l1 : Int) == (l1 : Int)) = true := by simp
  have HCO := Lib.hid (cost_no A1 A2 l1 l1 c1 c2 ws ls w.heap.size w hw hl (by omega) (by omega) h1 h2 (cost_no3 hrw))
  have H1 := Lib.hid h1
  have H2 := Lib.hid h2
  have HL := Lib.hid hl
  have HW := Lib.hid hw
  clear h1 h2 hl hw hr hrw
  go_enter Try.func4, Try.ntmps4
  go_wp2_with (first
    | (go_at_call 13; refine HCO.out.mono ?_; rintro e w1 ⟨rfl, m1, rfl⟩)
    | (go_at_call 10; refine (HRL.out _).mono ?_; rintro e w2 ⟨rfl, rfl⟩; clear HRL)
    | (go_at_call 10; refine (HRW.out _).mono ?_; rintro e w2 ⟨rfl, rfl⟩)
    | (go_at_call 14; refine (HFU.out _).mono ?_; rintro e w3 ⟨rfl, rfl⟩)
    | (go_at_call 15; refine (HSU.out _).mono ?_; rintro e w4 ⟨rfl, rfl⟩))
  go_loopg [8, 9, 10] l1 (fun gk sm mo i wr => ∃ k m : Nat, k + gk = l1 ∧ i = .int .i64 k ∧ sm = .int .i64 (0) ∧ mo = .int .i64 (mst ls k) ∧ wr = w.drewN m)
  case atStart => exact ⟨0, m1, by omega, rfl, rfl, rfl, rfl⟩
  case round =>
    obtain ⟨k, m, hk, rfl, rfl, rfl, rfl⟩ := hrel
    by_cases h : k < l1
    · obtain ⟨y, hy⟩ : ∃ y, ls[k]? = some y := ⟨_, List.getElem?_eq_getElem (by have := HL.out; omega)⟩
      obtain ⟨b2, o2, rfl, hbB2, hc2⟩ := H2.out (by rw [zCs_len, HL.out]; omega)
      have cy : w.cell? ⟨b2, o2 + k, none⟩ = some (.int .i64 y) := hc2 k _ (zCs_at hy)
      have HM : Hid (mst ls (k + 1) = if k = 0 ∨ mst ls k < y then y else mst ls k) := by show _ = _; rw [mst, List.getD, hy]; rfl
      obtain ⟨mo, hmo⟩ : ∃ mo, mst ls k = mo := ⟨_, rfl⟩
      rw [hmo] at HM ⊢
      clear hy hc2 hmo
      by_cases hk0 : k = 0
      · have u1 : ((k : Int) == 0) = true := by simp [hk0]
        rw [if_pos (.inl hk0)] at HM
        clear hk0
        go_wp2
        go_roundg (gk - 1)
        case measure => omega
        case rel => exact ⟨k + 1, m, by omega, by go_num, rfl, by rw [HM.out], rfl⟩
      · have u1 : ((k : Int) == 0) = false := by simp [hk0]
        by_cases hmy : mo < y
        · have u2 : decide (mo < y) = true := decide_eq_true hmy
          rw [if_pos (.inr hmy)] at HM
          clear hk0 hmy
          go_wp2
          go_roundg (gk - 1)
          case measure => omega
          case rel => exact ⟨k + 1, m, by omega, by go_num, rfl, by rw [HM.out], rfl⟩
        · have u2 : decide (mo < y) = false := decide_eq_false hmy
          rw [if_neg (by omega)] at HM
          clear hk0 hmy
          go_wp2
          go_roundg (gk - 1)
          case measure => omega
          case rel => exact ⟨k + 1, m, by omega, by go_num, rfl, by rw [HM.out], rfl⟩
    · obtain rfl : k = l1 := by omega
      obtain ⟨mo, hmo⟩ : ∃ mo, mst ls k = mo := ⟨_, rfl⟩
      rw [hmo] at HLO ⊢
      have u4 : (mo == mo) = true := by simp
      clear hmo
      go_wp2_with (first
        | (go_at_call 16; refine (HLO.out _).mono ?_; rintro e w5 ⟨rfl, rfl⟩)
        | (go_at_call 8; refine (lives7_any _).mono ?_; rintro e w6 ⟨rfl, hb6⟩; have HB6 := Lib.hid hb6; clear hb6))
      go_ret
      exact ⟨rfl, (dnBelow (Below.refl _ _) m).trans HB6.out⟩
set_option maxRecDepth 100000 in
set_option maxHeartbeats 2000000 in
theorem costs_yes (A1 A2 : Option Addr) (l1 l2 c1 c2 : Nat) (ws ls : List Int) (w : World) (hw : ws.length = l1) (hl : ls.length = l2) (hm1 : l1 ≤ 400) (hm2 : l2 ≤ 400) (h1 : Cells w w.heap.size A1 (zCs ws)) (h2 : Cells w w.heap.size A2 (zCs ls)) (hr : r7B ls = true) (hne : l1 = l2) (hrw : r7W ws = true) :
    Calls Try.prog 4 #[.slice A1 l1 c1, .slice A2 l2 c2] w fun e w' => e = .returned (.bool true) ∧ Below w.heap.size w w' := by
  have t1 : decide ((400 : Int) < (l1 : Int)) = false := by simp; omega
  have t2 : decide ((400 : Int) < (l2 : Int)) = false := by simp; omega
  have HFU := Lib.hid (fun m => full_any A2 l2 c2 ls w.heap.size (w.drewN m) hl (by omega) (h2 : Cells (w.drewN m) w.heap.size A2 (zCs ls)))
  have HRL := Lib.hid (fun m => ref7Right_any A2 l2 c2 ls w.heap.size (w.drewN m) hl (by omega) (h2 : Cells (w.drewN m) w.heap.size A2 (zCs ls)))
  have HLO := Lib.hid (fun m => longest_all A2 l2 c2 ls w.heap.size (w.drewN m) hl (by omega) (h2 : Cells (w.drewN m) w.heap.size A2 (zCs ls)))
  rw [hr] at HRL
  have HSU := Lib.hid (fun m => ref7Sum_any A2 l2 c2 ls w.heap.size (w.drewN m) hl (by omega) (h2 : Cells (w.drewN m) w.heap.size A2 (zCs ls)) (r7B_lens hr).2)
  obtain ⟨su, hsu⟩ : ∃ su, wsum ls = su := ⟨_, rfl⟩
  rw [full_yes hr, hsu] at HFU
  rw [hsu] at HSU
  obtain ⟨f, hf⟩ : ∃ f, decide (su = 32768) = f := ⟨_, rfl⟩
  rw [hf] at HFU
  have t3 : ((su : Int) == 32768) = f := by rw [← hf, Bool.eq_iff_iff]; simp; omega
  have t4 : (f != f) = false := by simp
  clear hf hsu
  subst hne
  have HRW := Lib.hid (fun m => ref7RightW_any A1 l1 c1 ws w.heap.size (w.drewN m) hw (by omega) (h1 : Cells (w.drewN m) w.heap.size A1 (zCs ws)))
  rw [hrw] at HRW
  have t5 : ((l1 : Int) == (l1 : Int)) = true := by simp
  have hok : costB ws ls = true := cost_yes hr (by omega) hrw
  have HCO := Lib.hid (cost_ok A1 A2 l1 c1 c2 ws ls w.heap.size w hw hl h1 h2 hok)
  have HBD := Lib.hid (csum_bd (costB_yes hok).2.2.1 (costB_yes hok).2.2.2)
  have HGW := Lib.hid (costB_yes hok).2.2.1
  have HGL := Lib.hid (costB_yes hok).2.2.2
  clear hok
  have H1 := Lib.hid h1
  have H2 := Lib.hid h2
  have HL := Lib.hid hl
  have HW := Lib.hid hw
  clear h1 h2 hl hw hr hrw
  go_enter Try.func4, Try.ntmps4
  go_wp2_with (first
    | (go_at_call 13; refine HCO.out.mono ?_; rintro e w1 ⟨rfl, m1, rfl⟩)
    | (go_at_call 10; refine (HRL.out _).mono ?_; rintro e w2 ⟨rfl, rfl⟩; clear HRL)
    | (go_at_call 10; refine (HRW.out _).mono ?_; rintro e w2 ⟨rfl, rfl⟩)
    | (go_at_call 14; refine (HFU.out _).mono ?_; rintro e w3 ⟨rfl, rfl⟩)
    | (go_at_call 15; refine (HSU.out _).mono ?_; rintro e w4 ⟨rfl, rfl⟩))
  go_loopg [8, 9, 10] l1 (fun gk sm mo i wr => ∃ k m : Nat, k + gk = l1 ∧ i = .int .i64 k ∧ sm = .int .i64 (csum ws ls k) ∧ mo = .int .i64 (mst ls k) ∧ wr = w.drewN m)
  case atStart => exact ⟨0, m1, by omega, rfl, rfl, rfl, rfl⟩
  case round =>
    obtain ⟨k, m, hk, rfl, rfl, rfl, rfl⟩ := hrel
    by_cases h : k < l1
    · obtain ⟨y, hy⟩ : ∃ y, ls[k]? = some y := ⟨_, List.getElem?_eq_getElem (by have := HL.out; omega)⟩
      obtain ⟨b2, o2, rfl, hbB2, hc2⟩ := H2.out (by rw [zCs_len, HL.out]; omega)
      have cy : w.cell? ⟨b2, o2 + k, none⟩ = some (.int .i64 y) := hc2 k _ (zCs_at hy)
      have hbd := HBD.out k
      obtain ⟨x, hx⟩ : ∃ x, ws[k]? = some x := ⟨_, List.getElem?_eq_getElem (by have := HW.out; omega)⟩
      obtain ⟨b, o, rfl, hbB, hc⟩ := H1.out (by rw [zCs_len, HW.out]; omega)
      have cx : w.cell? ⟨b, o + k, none⟩ = some (.int .i64 x) := hc k _ (zCs_at hx)
      have hqx := HGW.out x (List.mem_of_getElem? hx)
      have hqy := HGL.out y (List.mem_of_getElem? hy)
      have HS : Hid (csum ws ls (k + 1) = csum ws ls k + x * y) := by
        show _ = _
        rw [csum, List.getD, hx, List.getD, hy]
        rfl
      have hmb := mul_bd (wB_yes hqx) (lenB_yes hqy)
      obtain ⟨s, hs⟩ : ∃ s, csum ws ls k = s := ⟨_, rfl⟩
      rw [hs] at HS hbd ⊢
      have hw1 : IntKind.i64.wrap (x * y) = x * y := IntWalk.i64_in _ (by omega)
      have hw2 : IntKind.i64.wrap (s + x * y) = s + x * y := IntWalk.i64_in _ (by omega)
      clear hx hc hqx hqy hs hmb hbd
      have HM : Hid (mst ls (k + 1) = if k = 0 ∨ mst ls k < y then y else mst ls k) := by show _ = _; rw [mst, List.getD, hy]; rfl
      obtain ⟨mo, hmo⟩ : ∃ mo, mst ls k = mo := ⟨_, rfl⟩
      rw [hmo] at HM ⊢
      clear hy hc2 hmo
      by_cases hk0 : k = 0
      · have u1 : ((k : Int) == 0) = true := by simp [hk0]
        rw [if_pos (.inl hk0)] at HM
        clear hk0
        go_wp2
        go_quiet (fail)
        go_wp2
        go_roundg (gk - 1)
        case measure => omega
        case rel => exact ⟨k + 1, m + nq, by omega, by go_num, by rw [HS.out], by rw [HM.out], rfl⟩
      · have u1 : ((k : Int) == 0) = false := by simp [hk0]
        by_cases hmy : mo < y
        · have u2 : decide (mo < y) = true := decide_eq_true hmy
          rw [if_pos (.inr hmy)] at HM
          clear hk0 hmy
          go_wp2
          go_quiet (fail)
          go_wp2
          go_roundg (gk - 1)
          case measure => omega
          case rel => exact ⟨k + 1, m + nq, by omega, by go_num, by rw [HS.out], by rw [HM.out], rfl⟩
        · have u2 : decide (mo < y) = false := decide_eq_false hmy
          rw [if_neg (by omega)] at HM
          clear hk0 hmy
          go_wp2
          go_quiet (fail)
          go_wp2
          go_roundg (gk - 1)
          case measure => omega
          case rel => exact ⟨k + 1, m + nq, by omega, by go_num, by rw [HS.out], by rw [HM.out], rfl⟩
    · obtain rfl : k = l1 := by omega
      obtain ⟨s, hs⟩ : ∃ s, csum ws ls k = s := ⟨_, rfl⟩
      rw [hs]
      have u3 : (s == s) = true := by simp
      clear hs
      obtain ⟨mo, hmo⟩ : ∃ mo, mst ls k = mo := ⟨_, rfl⟩
      rw [hmo] at HLO ⊢
      have u4 : (mo == mo) = true := by simp
      clear hmo
      go_wp2_with (first
        | (go_at_call 16; refine (HLO.out _).mono ?_; rintro e w5 ⟨rfl, rfl⟩)
        | (go_at_call 8; refine (lives7_any _).mono ?_; rintro e w6 ⟨rfl, hb6⟩; have HB6 := Lib.hid hb6; clear hb6))
      go_ret
      exact ⟨rfl, (dnBelow (Below.refl _ _) m).trans HB6.out⟩
end Go.Proofs.Ytbhkaofgljpekaa
