/- Layer 8: may lengths be a code: one symbol alone; the reference's. -/
import Derived.Test.YtbpgaaecifnohaaMgRunsPuts15
namespace Go.Proofs.Ytbpgaaecifnohaa
open Go.RowKit

def zobB (n : Int) : Bool := decide (n = 0) || decide (n = 1)
def aloneB (zs : List Int) : Bool := decide (zs.length ≤ 320) && zs.all zobB && decide (zs.sum = 1)
def caR (zs : List Int) : Bool := decide (zs.length ≤ 320) && zs.all lenB && (decide (wsum zs = 32768) || decide (zs.sum = 1))
theorem sum_snoc {zs : List Int} {k : Nat} {x : Int} (h : zs[k]? = some x) : (zs.take (k + 1)).sum = (zs.take k).sum + x := by
  rw [take_snoc' h]
  simp
theorem sum_bd {zs : List Int} (h : ∀ x ∈ zs, lenB x = true) : 0 ≤ zs.sum ∧ zs.sum ≤ zs.length * 15 := by
  induction zs with
  | nil => exact ⟨Int.le_refl _, Int.le_refl _⟩
  | cons x l ih =>
    have h1 := lenB_yes (h x (by simp))
    have h2 := ih (fun y hy => h y (by simp [hy]))
    rw [List.sum_cons, List.length_cons]
    omega
theorem mem_of_upto {zs : List Int} {k : Nat} {f : Int → Bool} (h : ∀ j x, j < k → zs[j]? = some x → f x = true) : ∀ x ∈ zs.take k, f x = true := fun x hx => by
  obtain ⟨j, hj⟩ := List.mem_iff_getElem?.1 hx
  rw [List.getElem?_take] at hj
  split at hj
  · rename_i hk; exact h j x hk hj
  · cases hj
/-- Just one symbol, of length 1: all are 0 or 1, and their sum is 1. -/
theorem alone_iff {zs : List Int} (h : zs.all lenB = true) (hs : zs.sum = 1) : zs.all zobB = true := by
  rw [List.all_eq_true] at h ⊢
  induction zs with
  | nil => intro x hx; cases hx
  | cons a l ih =>
    have ha := lenB_yes (h a (by simp))
    have hl := sum_bd (fun y hy => h y (List.mem_cons_of_mem _ hy))
    rw [List.sum_cons] at hs
    intro x hx
    rcases List.mem_cons.1 hx with rfl | hx
    · simp [zobB]; omega
    · by_cases h0 : a = 0
      · exact ih (fun y hy => h y (List.mem_cons_of_mem _ hy)) (by omega) x hx
      · have hz : l.sum = 0 := by omega
        have : ∀ (l : List Int), (∀ y ∈ l, lenB y = true) → l.sum = 0 → ∀ y ∈ l, y = 0 := by
          intro l
          induction l with
          | nil => intro _ _ y hy; cases hy
          | cons b t ih2 =>
            intro h1 h2 y hy
            have hb := lenB_yes (h1 b (by simp))
            have ht := sum_bd (fun z hz => h1 z (List.mem_cons_of_mem _ hz))
            rw [List.sum_cons] at h2
            rcases List.mem_cons.1 hy with rfl | hy
            · omega
            · exact ih2 (fun z hz => h1 z (List.mem_cons_of_mem _ hz)) (by omega) y hy
        have := this l (fun y hy => h y (List.mem_cons_of_mem _ hy)) hz x hx
        subst this
        rfl
theorem one_len {n : Int} (h : zobB n = true) : lenB n = true := by simp [zobB] at h; simp [lenB]; omega
theorem caR_parts (zs : List Int) : caR zs = (fullB zs || aloneB zs) := by
  unfold caR fullB aloneB
  by_cases h1 : zs.length ≤ 320
  · rw [decide_eq_true h1]
    simp only [Bool.true_and]
    cases ha : zs.all lenB with
    | true =>
      rw [Bool.true_and, Bool.true_and]
      congr 1
      by_cases hs : zs.sum = 1
      · rw [alone_iff ha hs, decide_eq_true hs]; rfl
      · rw [decide_eq_false hs, Bool.and_false]
    | false =>
      rw [Bool.false_and, Bool.false_and, Bool.false_or]
      cases ho : zs.all zobB with
      | false => rfl
      | true =>
        rw [List.all_eq_true] at ho
        have : zs.all lenB = true := List.all_eq_true.2 (fun x hx => one_len (ho x hx))
        rw [ha] at this; cases this
  · rw [decide_eq_false h1]; rfl

set_option maxHeartbeats 1000000 in
theorem alone_any (A : Option Addr) (l c : Nat) (zs : List Int) (B : Nat) (w : World) (hl : zs.length = l) (hm : l ≤ 9223372036854775807) (hb : Cells w B A (zs.map ic)) :
    Calls Try.prog 88 #[.slice A l c] w fun e w' => e = .returned (.bool (aloneB zs)) ∧ w = w' := by
  have HC := Lib.hid hb
  have HL := Lib.hid hl
  have HFD : Hid (aloneB zs = (decide (zs.length ≤ 320) && zs.all zobB && decide (zs.sum = 1))) := rfl
  clear hb hl
  by_cases h320 : 320 < l
  · have hd : decide ((320 : Int) < (l : Int)) = true := by simp; omega
    have HF : Hid (aloneB zs = false) := by show _ = _; rw [HFD.out, HL.out, decide_eq_false (by omega)]; rfl
    clear h320
    go_enter Try.func88, Try.ntmps88
    go_wp2
    go_ret
    exact ⟨by rw [HF.out]; rfl, rfl⟩
  have hd : decide ((320 : Int) < (l : Int)) = false := by simp; omega
  go_enter Try.func88, Try.ntmps88
  go_wp2
  go_loopg [3, 11] l (fun gk v i wr => ∃ k : Nat, k + gk = l ∧ i = .int .i64 k ∧ v = .int .i64 (zs.take k).sum ∧ wr = w ∧ ∀ j x, j < k → zs[j]? = some x → zobB x = true)
  case atStart => exact ⟨0, by omega, rfl, rfl, rfl, fun j _ h => absurd h (Nat.not_lt_zero j)⟩
  case round =>
    obtain ⟨k, hk, rfl, rfl, rfl, hall⟩ := hrel
    have HALL := Lib.hid hall
    have hbd := sum_bd (fun x hx => one_len (mem_of_upto hall x hx))
    rw [List.length_take] at hbd
    clear hall
    by_cases h : k < l
    · obtain ⟨x, hx⟩ : ∃ x, zs[k]? = some x := ⟨_, List.getElem?_eq_getElem (by have := HL.out; omega)⟩
      obtain ⟨b, o, rfl, hbB, hc⟩ := HC.out (by rw [List.length_map, HL.out]; omega)
      have c0 : wr.cell? ⟨b, o + k, none⟩ = some (.int .i64 x) := hc k _ (by rw [List.getElem?_map, hx]; rfl)
      have HX := Lib.hid hx
      have HS := Lib.hid (sum_snoc hx)
      have hlk : min k zs.length ≤ 320 := by have := HL.out; omega
      generalize (zs.take k).sum = t at *
      generalize min k zs.length = mk at *
      clear hc hx
      by_cases hx0 : x = 0
      · have HQ : Hid (zobB x = true) := by show _ = _; simp [zobB, hx0]
        have hd2 : (x != 0) = false := by simp [hx0]
        have hd2' : (x == 0) = true := by simp [hx0]
        have hxz := Lib.hid hx0
        have hx1 : x ≤ 1 := by omega
        have hx2 : 0 ≤ x := by omega
        clear hx0
        go_wp2
        go_roundg (gk - 1)
        case measure => omega
        case rel => exact ⟨k + 1, by omega, by go_num, by rw [HS.out], rfl, fun j y hj hy => by
            by_cases e : j = k
            · subst e
              rw [HX.out] at hy
              injection hy with hy
              subst hy
              exact HQ.out
            · exact HALL.out j y (by omega) hy⟩
      · by_cases hx1 : x = 1
        · have HQ : Hid (zobB x = true) := by show _ = _; simp [zobB, hx1]
          have hd2 : (x != 0) = true := by simp [hx1]
          have hd2' : (x == 0) = false := by simp [hx1]
          have hd3 : (x != 1) = false := by simp [hx1]
          have hd3' : (x == 1) = true := by simp [hx1]
          have hxa : x ≤ 1 := by omega
          have hxb : 0 ≤ x := by omega
          clear hx0 hx1
          go_wp2
          go_roundg (gk - 1)
          case measure => omega
          case rel => exact ⟨k + 1, by omega, by go_num, by rw [HS.out], rfl, fun j y hj hy => by
              by_cases e : j = k
              · subst e
                rw [HX.out] at hy
                injection hy with hy
                subst hy
                exact HQ.out
              · exact HALL.out j y (by omega) hy⟩
        · have HF : Hid (aloneB zs = false) := by show _ = _; rw [HFD.out, all_bad HX.out (by simp [zobB, hx0, hx1]), Bool.and_false]; rfl
          have hd2 : (x != 0) = true := by simp [hx0]
          have hd2' : (x == 0) = false := by simp [hx0]
          have hd3 : (x != 1) = true := by simp [hx1]
          have hd3' : (x == 1) = false := by simp [hx1]
          clear hx0 hx1
          go_wp2
          go_ret
          exact ⟨by rw [HF.out]; rfl, rfl⟩
    · obtain rfl : k = l := by omega
      have ht : zs.take k = zs := List.take_of_length_le (by have := HL.out; omega)
      have HA : Hid (zs.all zobB = true) := all_good (fun j x hj hx => HALL.out j x (by have := HL.out; omega) hx)
      rw [ht]
      rw [ht] at hbd
      clear ht
      have HF : Hid (aloneB zs = decide (zs.sum = 1)) := by show _ = _; rw [HFD.out, HA.out, HL.out, decide_eq_true (show k ≤ 320 by omega)]; rfl
      generalize zs.sum = s at *
      by_cases hs : s = 1
      · subst hs
        go_wp2
        go_ret
        exact ⟨by rw [HF.out]; rfl, rfl⟩
      · have hd3 : (s == 1) = false := by simp [hs]
        rw [decide_eq_false hs] at HF
        clear hs
        go_wp2
        go_ret
        exact ⟨by rw [HF.out]; rfl, rfl⟩

set_option maxHeartbeats 1000000 in
theorem caRight_any (A : Option Addr) (l c : Nat) (zs : List Int) (B : Nat) (w : World) (hl : zs.length = l) (hm : l ≤ 9223372036854775807) (hb : Cells w B A (zs.map ic)) :
    Calls Try.prog 80 #[.slice A l c] w fun e w' => e = .returned (.bool (caR zs)) ∧ w = w' := by
  have HF := Lib.hid (full_any A l c zs B w hl hm hb)
  have HA := Lib.hid (alone_any A l c zs B w hl hm hb)
  have HP : Hid (caR zs = (fullB zs || aloneB zs)) := caR_parts zs
  generalize fullB zs = f at *
  generalize aloneB zs = a at *
  clear hl hb
  cases f with
  | true =>
    go_enter Try.func80, Try.ntmps80
    go_wp2_with (first | (go_at_call 87; refine HF.out.mono ?_; rintro e w' ⟨rfl, rfl⟩) | (go_at_call 88; refine HA.out.mono ?_; rintro e w' ⟨rfl, rfl⟩))
    go_ret
    exact ⟨by rw [HP.out]; rfl, rfl⟩
  | false =>
    go_enter Try.func80, Try.ntmps80
    go_wp2_with (first | (go_at_call 87; refine HF.out.mono ?_; rintro e w' ⟨rfl, rfl⟩) | (go_at_call 88; refine HA.out.mono ?_; rintro e w' ⟨rfl, rfl⟩))
    go_ret
    exact ⟨by rw [HP.out]; rfl, rfl⟩
end Go.Proofs.Ytbpgaaecifnohaa
/- Layer 8: may lengths be a code: the reference's. -/
namespace Go.Proofs.Ytbpgaaecifnohaa
open Go.RowKit

def r7B (zs : List Int) : Bool := decide (zs.length ≤ 320) && zs.all lenB
set_option maxHeartbeats 1000000 in
theorem ref7Right_any (A : Option Addr) (l c : Nat) (zs : List Int) (B : Nat) (w : World) (hl : zs.length = l) (hm : l ≤ 1099511627776) (hb : Cells w B A (zs.map ic)) :
    Calls Try.prog 9 #[.slice A l c, .int .i64 15] w fun e w' => e = .returned (.bool (r7B zs)) ∧ w = w' := by
  have HC := Lib.hid hb
  have HL := Lib.hid hl
  have HFD : Hid (r7B zs = (decide (zs.length ≤ 320) && zs.all lenB)) := rfl
  clear hb hl
  go_enter Try.func9, Try.ntmps9
  go_wp2
  go_loopg [5] l (fun gk i wr => ∃ k : Nat, k + gk = l ∧ i = .int .i64 k ∧ wr = w ∧ ∀ j x, j < k → zs[j]? = some x → lenB x = true)
  case atStart => exact ⟨0, by omega, rfl, rfl, fun j _ h => absurd h (Nat.not_lt_zero j)⟩
  case round =>
    obtain ⟨k, hk, rfl, rfl, hall⟩ := hrel
    have HALL := Lib.hid hall
    clear hall
    by_cases h : k < l
    · obtain ⟨x, hx⟩ : ∃ x, zs[k]? = some x := ⟨_, List.getElem?_eq_getElem (by have := HL.out; omega)⟩
      obtain ⟨b, o, rfl, hbB, hc⟩ := HC.out (by rw [List.length_map, HL.out]; omega)
      have c0 : wr.cell? ⟨b, o + k, none⟩ = some (.int .i64 x) := hc k _ (by rw [List.getElem?_map, hx]; rfl)
      have HX := Lib.hid hx
      clear hc hx
      by_cases hx0 : x < 0
      · have HF : Hid (r7B zs = false) := by show _ = _; rw [HFD.out, all_bad HX.out (by simp [lenB]; omega), Bool.and_false]
        go_wp2
        go_ret
        exact ⟨by rw [HF.out]; rfl, rfl⟩
      by_cases hx1 : 15 < x
      · have HF : Hid (r7B zs = false) := by show _ = _; rw [HFD.out, all_bad HX.out (by simp [lenB]; omega), Bool.and_false]
        go_wp2
        go_ret
        exact ⟨by rw [HF.out]; rfl, rfl⟩
      · have HQ : Hid (lenB x = true) := by show _ = _; simp [lenB]; omega
        go_wp2
        go_roundg (gk - 1)
        case measure => omega
        case rel => exact ⟨k + 1, by omega, by go_num, rfl, fun j y hj hy => by
            by_cases e : j = k
            · subst e
              rw [HX.out] at hy
              injection hy with hy
              subst hy
              exact HQ.out
            · exact HALL.out j y (by omega) hy⟩
    · obtain rfl : k = l := by omega
      have HA : Hid (zs.all lenB = true) := all_good (fun j x hj hx => HALL.out j x (by have := HL.out; omega) hx)
      have HF : Hid (r7B zs = decide ((k : Int) < 321)) := by
        show _ = _
        rw [HFD.out, HA.out, HL.out, Bool.and_true]
        simp; omega
      go_wp2
      go_ret
      exact ⟨by rw [HF.out]; rfl, rfl⟩

set_option maxHeartbeats 2000000 in
theorem ref7Sum_any (A : Option Addr) (l c : Nat) (zs : List Int) (B : Nat) (w : World) (hl : zs.length = l) (hm : l ≤ 1000) (hb : Cells w B A (zs.map ic)) (hok : ∀ x ∈ zs, lenB x = true) :
    Calls Try.prog 66 #[.slice A l c] w fun e w' => e = .returned (.int .i64 (wsum zs : Nat)) ∧ w = w' := by
  have HC := Lib.hid hb
  have HL := Lib.hid hl
  have HOK := Lib.hid hok
  have HWL : Hid (∀ k, wsum (zs.take k) ≤ 1000 * 32768) := fun k => Nat.le_trans (wsum_le _) (Nat.mul_le_mul_right _ (by rw [List.length_take]; omega))
  clear hb hl hok
  go_enter Try.func66, Try.ntmps66
  go_wp2
  go_loopg [3, 4] l (fun gk v i wr => ∃ k : Nat, k + gk = l ∧ i = .int .i64 k ∧ v = .int .i64 (wsum (zs.take k) : Nat) ∧ wr = w)
  case atStart => exact ⟨0, by omega, rfl, rfl, rfl⟩
  case round =>
    obtain ⟨k, hk, rfl, rfl, rfl⟩ := hrel
    have hw1 := HWL.out k
    by_cases h : k < l
    · obtain ⟨x, hx⟩ : ∃ x, zs[k]? = some x := ⟨_, List.getElem?_eq_getElem (by have := HL.out; omega)⟩
      obtain ⟨b, o, rfl, hbB, hc⟩ := HC.out (by rw [List.length_map, HL.out]; omega)
      have c0 : wr.cell? ⟨b, o + k, none⟩ = some (.int .i64 x) := hc k _ (by rw [List.getElem?_map, hx]; rfl)
      obtain ⟨hx0, hx1⟩ := lenB_yes (HOK.out x (List.mem_of_getElem? hx))
      have HS := Lib.hid (wsum_snoc hx)
      have hw2 := HWL.out (k + 1)
      clear hc hx
      by_cases hxz : x = 0
      · have hwt : wt x = 0 := if_neg (by omega)
        rw [hwt] at HS
        have hd : (x == 0) = true := by simp [hxz]
        clear hwt hxz
        go_wp2
        go_roundg (gk - 1)
        case measure => omega
        case rel => exact ⟨k + 1, by omega, by go_num, by rw [HS.out, Nat.add_zero], rfl⟩
      · have hd : (x == 0) = false := by simp [hxz]
        obtain ⟨n, rfl⟩ := Int.eq_ofNat_of_zero_le hx0
        have hwt : wt (n : Int) = 2 ^ (15 - n) := by unfold wt; rw [if_pos (by omega), Int.toNat_natCast]
        rw [HS.out] at hw2
        rw [hwt] at HS hw2
        have hn1 : 1 ≤ n := by omega
        have hn15 : n ≤ 15 := by omega
        obtain ⟨t, ht⟩ : ∃ t, wsum (zs.take k) = t := ⟨_, rfl⟩
        rw [ht] at hw1 hw2 HS
        rw [ht]
        have HZ := Lib.hid hxz
        clear hwt ht hxz
        obtain ⟨G, hG⟩ : ∃ G, gk = G := ⟨_, rfl⟩
        rw [hG] at hk
        go_wp2
        go_loopg [5, 6] (15 - n) (fun g2 p i wr2 => ∃ j : Nat, j + g2 = 15 ∧ n ≤ j ∧ i = .int .i64 j ∧ p = .int .i64 ((2 ^ (j - n) : Nat) : Int) ∧ wr2 = wr)
        case atStart => exact ⟨n, by omega, Nat.le_refl _, rfl, by rw [Nat.sub_self]; rfl, rfl⟩
        case round =>
          obtain ⟨j, hj, hnj, rfl, rfl, rfl⟩ := hrel
          have hpj : 2 ^ (j - n) ≤ 32768 := Nat.le_trans (Nat.pow_le_pow_right (by decide) (by omega : j - n ≤ 15)) (by decide)
          by_cases hj15 : j < 15
          · have HP : Hid (2 ^ (j + 1 - n) = 2 ^ (j - n) * 2) := by show _ = _; rw [show j + 1 - n = (j - n) + 1 by omega, Nat.pow_succ]
            generalize 2 ^ (j - n) = p at *
            go_wp2
            go_roundg (gk - 1)
            case measure => omega
            case rel => exact ⟨j + 1, by omega, by omega, by go_num, by rw [HP.out]; go_num, rfl⟩
          · obtain rfl : j = 15 := by omega
            generalize 2 ^ (15 - n) = p at *
            go_wp2
            go_roundg (G - 1)
            case measure => omega
            case rel => exact ⟨k + 1, by omega, by go_num, by rw [HS.out]; go_num, rfl⟩
    · obtain rfl : k = l := by omega
      have ht : zs.take k = zs := List.take_of_length_le (by have := HL.out; omega)
      rw [ht]
      go_wp2
      go_ret
      exact ⟨rfl, rfl⟩
end Go.Proofs.Ytbpgaaecifnohaa
