/- Layer 8: may lengths be a code? -/
import Derived.Test.YtkikgidmioofaaaGreatRows
import Derived.Test.YtkikgidmioofaaaGreatMgB06
import Derived.Test.YtkikgidmioofaaaGreatMgBSFoot
import Derived.Deep.DeepCutAuto
import Derived.IntWalk
import Derived.Outline
namespace Go.Proofs.YtkikgidmioofaaaGreat
open Go.RowKit

def ic (n : Int) : Value := .int .i64 n
/-- What a length of a code takes of all. -/
def wt (n : Int) : Nat := if 0 < n then 2 ^ (15 - n.toNat) else 0
def wsum (zs : List Int) : Nat := (zs.map wt).sum
def lenB (n : Int) : Bool := decide (0 ≤ n) && decide (n ≤ 15)
def fullB (zs : List Int) : Bool := decide (zs.length ≤ 320) && zs.all lenB && decide (wsum zs = 32768)
theorem lenB_yes {n : Int} (h : lenB n = true) : 0 ≤ n ∧ n ≤ 15 := by simpa [lenB] using h
theorem wt_le (n : Int) : wt n ≤ 32768 := by
  unfold wt
  split
  · exact Nat.le_trans (Nat.pow_le_pow_right (by decide) (Nat.sub_le 15 _)) (by decide)
  · exact Nat.zero_le _
theorem take_snoc' {α : Type} {l : List α} {k : Nat} {x : α} (h : l[k]? = some x) : l.take (k + 1) = l.take k ++ [x] := by rw [List.take_add_one, h]; rfl
theorem wsum_snoc {zs : List Int} {k : Nat} {x : Int} (h : zs[k]? = some x) : wsum (zs.take (k + 1)) = wsum (zs.take k) + wt x := by
  unfold wsum
  rw [take_snoc' h]
  simp
theorem wsum_le (zs : List Int) : wsum zs ≤ zs.length * 32768 := by
  induction zs with
  | nil => exact Nat.zero_le _
  | cons x l ih =>
    have := wt_le x
    unfold wsum at ih ⊢
    rw [List.map_cons, List.sum_cons, List.length_cons, Nat.succ_mul]
    omega
theorem all_bad {zs : List Int} {k : Nat} {x : Int} {f : Int → Bool} (h : zs[k]? = some x) (hx : f x = false) : zs.all f = false := by
  rw [List.all_eq_false]
  exact ⟨x, List.mem_of_getElem? h, by rw [hx]; decide⟩
theorem all_good {zs : List Int} {f : Int → Bool} (h : ∀ j x, j < zs.length → zs[j]? = some x → f x = true) : zs.all f = true := by
  rw [List.all_eq_true]
  intro x hx
  obtain ⟨j, hj⟩ := List.mem_iff_getElem?.1 hx
  exact h j x (List.getElem?_eq_some_iff.1 hj).1 hj

set_option maxHeartbeats 400000 in
theorem rlen_any (n : Int) (w : World) : Calls Tryz.prog 167 #[.int .i64 n] w fun e w' => e = .returned (.bool (lenB n)) ∧ w = w' := by
  by_cases h1 : 0 ≤ n
  · by_cases h2 : n ≤ 15
    · have HD : Hid (lenB n = true) := by show _ = _; simp [lenB, h1, h2]
      go_enter Tryz.func167, Tryz.ntmps167
      go_wp2
      go_ret
      exact ⟨by rw [HD.out]; rfl, rfl⟩
    · have HD : Hid (lenB n = false) := by show _ = _; simp [lenB, h2]
      have h2' : decide (n ≤ 15) = false := by simpa using h2
      clear h2
      go_enter Tryz.func167, Tryz.ntmps167
      go_wp2
      go_ret
      exact ⟨by rw [HD.out]; rfl, rfl⟩
  · have HD : Hid (lenB n = false) := by show _ = _; simp [lenB, h1]
    go_enter Tryz.func167, Tryz.ntmps167
    go_wp2
    go_ret
    exact ⟨by rw [HD.out]; rfl, rfl⟩

set_option maxHeartbeats 1000000 in
theorem full_any (A : Option Addr) (l c : Nat) (zs : List Int) (B : Nat) (w : World) (hl : zs.length = l) (hm : l ≤ 9223372036854775807) (hb : Cells w B A (zs.map ic)) :
    Calls Tryz.prog 152 #[.slice A l c] w fun e w' => e = .returned (.bool (fullB zs)) ∧ w = w' := by
  have HC := Lib.hid hb
  have HL := Lib.hid hl
  have HFD : Hid (fullB zs = (decide (zs.length ≤ 320) && zs.all lenB && decide (wsum zs = 32768))) := rfl
  clear hb hl
  by_cases h320 : 320 < l
  · have hd : decide ((320 : Int) < (l : Int)) = true := by simp; omega
    have HF : Hid (fullB zs = false) := by show _ = _; rw [HFD.out, HL.out, decide_eq_false (by omega)]; rfl
    clear h320
    go_enter Tryz.func152, Tryz.ntmps152
    go_wp2
    go_ret
    exact ⟨by rw [HF.out]; rfl, rfl⟩
  have hd : decide ((320 : Int) < (l : Int)) = false := by simp; omega
  have HWL : Hid (∀ k, wsum (zs.take k) ≤ 320 * 32768) := fun k => Nat.le_trans (wsum_le _) (Nat.mul_le_mul_right _ (by rw [List.length_take, HL.out]; omega))
  go_enter Tryz.func152, Tryz.ntmps152
  go_wp2
  go_loopg [3, 11] l (fun gk v i wr => ∃ k : Nat, k + gk = l ∧ i = .int .i64 k ∧ v = .int .i64 (32768 - (wsum (zs.take k) : Nat)) ∧ wr = w ∧ ∀ j x, j < k → zs[j]? = some x → lenB x = true)
  case atStart => exact ⟨0, by omega, rfl, rfl, rfl, fun j _ h => absurd h (Nat.not_lt_zero j)⟩
  case round =>
    obtain ⟨k, hk, rfl, rfl, rfl, hall⟩ := hrel
    have HALL := Lib.hid hall
    clear hall
    have hw1 := HWL.out k
    by_cases h : k < l
    · obtain ⟨x, hx⟩ : ∃ x, zs[k]? = some x := ⟨_, List.getElem?_eq_getElem (by have := HL.out; omega)⟩
      obtain ⟨b, o, rfl, hbB, hc⟩ := HC.out (by rw [List.length_map, HL.out]; omega)
      have c0 : wr.cell? ⟨b, o + k, none⟩ = some (.int .i64 x) := hc k _ (by rw [List.getElem?_map, hx]; rfl)
      have HX := Lib.hid hx
      have HS := Lib.hid (wsum_snoc hx)
      have hw2 := HWL.out (k + 1)
      have HR := Lib.hid (fun W => rlen_any x W)
      obtain ⟨q, hq⟩ : ∃ q, lenB x = q := ⟨_, rfl⟩
      have HQ := Lib.hid hq
      rw [hq] at HR
      clear hc hx hq
      cases q with
      | false =>
        have HF : Hid (fullB zs = false) := by show _ = _; rw [HFD.out, all_bad HX.out HQ.out, Bool.and_false]; rfl
        go_wp2_with (go_at_call 167; refine (HR.out _).mono ?_; rintro e w' ⟨rfl, rfl⟩)
        go_ret
        exact ⟨by rw [HF.out]; rfl, rfl⟩
      | true =>
        obtain ⟨hx0, hx1⟩ := lenB_yes HQ.out
        rw [HS.out] at hw2
        by_cases hx2 : 0 < x
        · have hsh : (2 : Int) ^ (15 - x).toNat = ((wt x : Nat) : Int) := by
            unfold wt
            rw [if_pos hx2, show (15 - x).toNat = 15 - x.toNat by omega]
            push_cast
            rfl
          have hwt := wt_le x
          obtain ⟨t, ht⟩ : ∃ t, wt x = t := ⟨_, rfl⟩
          rw [ht] at hsh hwt hw2 HS
          clear ht
          go_wp2_with (go_at_call 167; refine (HR.out _).mono ?_; rintro e w' ⟨rfl, rfl⟩)
          go_roundg (gk - 1)
          case measure => omega
          case rel => exact ⟨k + 1, by omega, by go_num, by rw [HS.out]; go_num, rfl, fun j y hj hy => by
            by_cases e : j = k
            · subst e
              rw [HX.out] at hy
              injection hy with hy
              subst hy
              exact HQ.out
            · exact HALL.out j y (by omega) hy⟩
        · have hwt : wt x = 0 := if_neg hx2
          rw [hwt] at HS
          have hd2 : decide ((0 : Int) < x) = false := by simp; omega
          clear hwt hx2
          go_wp2_with (go_at_call 167; refine (HR.out _).mono ?_; rintro e w' ⟨rfl, rfl⟩)
          go_roundg (gk - 1)
          case measure => omega
          case rel => exact ⟨k + 1, by omega, by go_num, by rw [HS.out, Nat.add_zero], rfl, fun j y hj hy => by
            by_cases e : j = k
            · subst e
              rw [HX.out] at hy
              injection hy with hy
              subst hy
              exact HQ.out
            · exact HALL.out j y (by omega) hy⟩
    · obtain rfl : k = l := by omega
      have ht : zs.take k = zs := List.take_of_length_le (by have := HL.out; omega)
      have HA : Hid (zs.all lenB = true) := all_good (fun j x hj hx => HALL.out j x (by have := HL.out; omega) hx)
      rw [ht] at hw1
      rw [ht]
      clear ht
      have HF : Hid (fullB zs = decide (wsum zs = 32768)) := by show _ = _; rw [HFD.out, HA.out, HL.out, decide_eq_true (show k ≤ 320 by omega)]; rfl
      generalize wsum zs = s at *
      by_cases hs : s = 32768
      · subst hs
        go_wp2
        go_ret
        exact ⟨by rw [HF.out]; rfl, rfl⟩
      · have hd3 : ((32768 : Int) - (s : Int) == 0) = false := by simp; omega
        rw [decide_eq_false hs] at HF
        clear hs
        go_wp2
        go_ret
        exact ⟨by rw [HF.out]; rfl, rfl⟩
end Go.Proofs.YtkikgidmioofaaaGreat
/- Layer 8: may lengths be a code: one symbol alone; the reference's. -/
namespace Go.Proofs.YtkikgidmioofaaaGreat
open Go.RowKit

def zobB (n : Int) : Bool := decide (n = 0) || decide (n = 1)
def aloneB (zs : List Int) : Bool := decide (zs.length ≤ 320) && zs.all zobB && decide (zs.sum = 1)
def caR (zs : List Int) : Bool := decide (zs.length ≤ 320) && zs.all lenB && (decide (wsum zs = 32768) || decide (zs.sum = 1))
theorem sum_snoc {zs : List Int} {k : Nat} {x : Int} (h : zs[k]? = some x) : (zs.take (k + 1)).sum = (zs.take k).sum + x := by
  rw [take_snoc' h]
  simp
theorem sum_bd {zs : List Int} (h : ∀ x ∈ zs, lenB x = true) : 0 ≤ zs.sum ∧ zs.sum ≤ zs.length * 15 := by
  induction zs with
  | nil => exact ⟨Int.le_refl _, Int.le_refl _⟩
  | cons x l ih =>
    have h1 := lenB_yes (h x (by simp))
    have h2 := ih (fun y hy => h y (by simp [hy]))
    rw [List.sum_cons, List.length_cons]
    omega
theorem mem_of_upto {zs : List Int} {k : Nat} {f : Int → Bool} (h : ∀ j x, j < k → zs[j]? = some x → f x = true) : ∀ x ∈ zs.take k, f x = true := fun x hx => by
  obtain ⟨j, hj⟩ := List.mem_iff_getElem?.1 hx
  rw [List.getElem?_take] at hj
  split at hj
  · rename_i hk; exact h j x hk hj
  · cases hj
/-- Just one symbol, of length 1: all are 0 or 1, and their sum is 1. -/
theorem alone_iff {zs : List Int} (h : zs.all lenB = true) (hs : zs.sum = 1) : zs.all zobB = true := by
  rw [List.all_eq_true] at h ⊢
  induction zs with
  | nil => intro x hx; cases hx
  | cons a l ih =>
    have ha := lenB_yes (h a (by simp))
    have hl := sum_bd (fun y hy => h y (List.mem_cons_of_mem _ hy))
    rw [List.sum_cons] at hs
    intro x hx
    rcases List.mem_cons.1 hx with rfl | hx
    · simp [zobB]; omega
    · by_cases h0 : a = 0
      · exact ih (fun y hy => h y (List.mem_cons_of_mem _ hy)) (by omega) x hx
      · have hz : l.sum = 0 := by omega
        have : ∀ (l : List Int), (∀ y ∈ l, lenB y = true) → l.sum = 0 → ∀ y ∈ l, y = 0 := by
          intro l
          induction l with
          | nil => intro _ _ y hy; cases hy
          | cons b t ih2 =>
            intro h1 h2 y hy
            have hb := lenB_yes (h1 b (by simp))
            have ht := sum_bd (fun z hz => h1 z (List.mem_cons_of_mem _ hz))
            rw [List.sum_cons] at h2
            rcases List.mem_cons.1 hy with rfl | hy
            · omega
            · exact ih2 (fun z hz => h1 z (List.mem_cons_of_mem _ hz)) (by omega) y hy
        have := this l (fun y hy => h y (List.mem_cons_of_mem _ hy)) hz x hx
        subst this
        rfl
theorem one_len {n : Int} (h : zobB n = true) : lenB n = true := by simp [zobB] at h; simp [lenB]; omega
theorem caR_parts (zs : List Int) : caR zs = (fullB zs || aloneB zs) := by
  unfold caR fullB aloneB
  by_cases h1 : zs.length ≤ 320
  · rw [decide_eq_true h1]
    simp only [Bool.true_and]
    cases ha : zs.all lenB with
    | true =>
      rw [Bool.true_and, Bool.true_and]
      congr 1
      by_cases hs : zs.sum = 1
      · rw [alone_iff ha hs, decide_eq_true hs]; rfl
      · rw [decide_eq_false hs, Bool.and_false]
    | false =>
      rw [Bool.false_and, Bool.false_and, Bool.false_or]
      cases ho : zs.all zobB with
      | false => rfl
      | true =>
        rw [List.all_eq_true] at ho
        have : zs.all lenB = true := List.all_eq_true.2 (fun x hx => one_len (ho x hx))
        rw [ha] at this; cases this
  · rw [decide_eq_false h1]; rfl

set_option maxHeartbeats 1000000 in
theorem alone_any (A : Option Addr) (l c : Nat) (zs : List Int) (B : Nat) (w : World) (hl : zs.length = l) (hm : l ≤ 9223372036854775807) (hb : Cells w B A (zs.map ic)) :
    Calls Tryz.prog 153 #[.slice A l c] w fun e w' => e = .returned (.bool (aloneB zs)) ∧ w = w' := by
  have HC := Lib.hid hb
  have HL := Lib.hid hl
  have HFD : Hid (aloneB zs = (decide (zs.length ≤ 320) && zs.all zobB && decide (zs.sum = 1))) := rfl
  clear hb hl
  by_cases h320 : 320 < l
  · have hd : decide ((320 : Int) < (l : Int)) = true := by simp; omega
    have HF : Hid (aloneB zs = false) := by show _ = _; rw [HFD.out, HL.out, decide_eq_false (by omega)]; rfl
    clear h320
    go_enter Tryz.func153, Tryz.ntmps153
    go_wp2
    go_ret
    exact ⟨by rw [HF.out]; rfl, rfl⟩
  have hd : decide ((320 : Int) < (l : Int)) = false := by simp; omega
  go_enter Tryz.func153, Tryz.ntmps153
  go_wp2
  go_loopg [3, 11] l (fun gk v i wr => ∃ k : Nat, k + gk = l ∧ i = .int .i64 k ∧ v = .int .i64 (zs.take k).sum ∧ wr = w ∧ ∀ j x, j < k → zs[j]? = some x → zobB x = true)
  case atStart => exact ⟨0, by omega, rfl, rfl, rfl, fun j _ h => absurd h (Nat.not_lt_zero j)⟩
  case round =>
    obtain ⟨k, hk, rfl, rfl, rfl, hall⟩ := hrel
    have HALL := Lib.hid hall
    have hbd := sum_bd (fun x hx => one_len (mem_of_upto hall x hx))
    rw [List.length_take] at hbd
    clear hall
    by_cases h : k < l
    · obtain ⟨x, hx⟩ : ∃ x, zs[k]? = some x := ⟨_, List.getElem?_eq_getElem (by have := HL.out; omega)⟩
      obtain ⟨b, o, rfl, hbB, hc⟩ := HC.out (by rw [List.length_map, HL.out]; omega)
      have c0 : wr.cell? ⟨b, o + k, none⟩ = some (.int .i64 x) := hc k _ (by rw [List.getElem?_map, hx]; rfl)
      have HX := Lib.hid hx
      have HS := Lib.hid (sum_snoc hx)
      have hlk : min k zs.length ≤ 320 := by have := HL.out; omega
      generalize (zs.take k).sum = t at *
      generalize min k zs.length = mk at *
      clear hc hx
      by_cases hx0 : x = 0
      · have HQ : Hid (zobB x = true) := by show _ = _; simp [zobB, hx0]
        have hd2 : (x != 0) = false := by simp [hx0]
        have hd2' : (x == 0) = true := by simp [hx0]
        have hxz := Lib.hid hx0
        have hx1 : x ≤ 1 := by omega
        have hx2 : 0 ≤ x := by omega
        clear hx0
        go_wp2
        go_roundg (gk - 1)
        case measure => omega
        case rel => exact ⟨k + 1, by omega, by go_num, by rw [HS.out], rfl, fun j y hj hy => by
            by_cases e : j = k
            · subst e
              rw [HX.out] at hy
              injection hy with hy
              subst hy
              exact HQ.out
            · exact HALL.out j y (by omega) hy⟩
      · by_cases hx1 : x = 1
        · have HQ : Hid (zobB x = true) := by show _ = _; simp [zobB, hx1]
          have hd2 : (x != 0) = true := by simp [hx1]
          have hd2' : (x == 0) = false := by simp [hx1]
          have hd3 : (x != 1) = false := by simp [hx1]
          have hd3' : (x == 1) = true := by simp [hx1]
          have hxa : x ≤ 1 := by omega
          have hxb : 0 ≤ x := by omega
          clear hx0 hx1
          go_wp2
          go_roundg (gk - 1)
          case measure => omega
          case rel => exact ⟨k + 1, by omega, by go_num, by rw [HS.out], rfl, fun j y hj hy => by
              by_cases e : j = k
              · subst e
                rw [HX.out] at hy
                injection hy with hy
                subst hy
                exact HQ.out
              · exact HALL.out j y (by omega) hy⟩
        · have HF : Hid (aloneB zs = false) := by show _ = _; rw [HFD.out, all_bad HX.out (by simp [zobB, hx0, hx1]), Bool.and_false]; rfl
          have hd2 : (x != 0) = true := by simp [hx0]
          have hd2' : (x == 0) = false := by simp [hx0]
          have hd3 : (x != 1) = true := by simp [hx1]
          have hd3' : (x == 1) = false := by simp [hx1]
          clear hx0 hx1
          go_wp2
          go_ret
          exact ⟨by rw [HF.out]; rfl, rfl⟩
    · obtain rfl : k = l := by omega
      have ht : zs.take k = zs := List.take_of_length_le (by have := HL.out; omega)
      have HA : Hid (zs.all zobB = true) := all_good (fun j x hj hx => HALL.out j x (by have := HL.out; omega) hx)
      rw [ht]
      rw [ht] at hbd
      clear ht
      have HF : Hid (aloneB zs = decide (zs.sum = 1)) := by show _ = _; rw [HFD.out, HA.out, HL.out, decide_eq_true (show k ≤ 320 by omega)]; rfl
      generalize zs.sum = s at *
      by_cases hs : s = 1
      · subst hs
        go_wp2
        go_ret
        exact ⟨by rw [HF.out]; rfl, rfl⟩
      · have hd3 : (s == 1) = false := by simp [hs]
        rw [decide_eq_false hs] at HF
        clear hs
        go_wp2
        go_ret
        exact ⟨by rw [HF.out]; rfl, rfl⟩

set_option maxHeartbeats 1000000 in
theorem caRight_any (A : Option Addr) (l c : Nat) (zs : List Int) (B : Nat) (w : World) (hl : zs.length = l) (hm : l ≤ 9223372036854775807) (hb : Cells w B A (zs.map ic)) :
    Calls Tryz.prog 135 #[.slice A l c] w fun e w' => e = .returned (.bool (caR zs)) ∧ w = w' := by
  have HF := Lib.hid (full_any A l c zs B w hl hm hb)
  have HA := Lib.hid (alone_any A l c zs B w hl hm hb)
  have HP : Hid (caR zs = (fullB zs || aloneB zs)) := caR_parts zs
  generalize fullB zs = f at *
  generalize aloneB zs = a at *
  clear hl hb
  cases f with
  | true =>
    go_enter Tryz.func135, Tryz.ntmps135
    go_wp2_with (first | (go_at_call 152; refine HF.out.mono ?_; rintro e w' ⟨rfl, rfl⟩) | (go_at_call 153; refine HA.out.mono ?_; rintro e w' ⟨rfl, rfl⟩))
    go_ret
    exact ⟨by rw [HP.out]; rfl, rfl⟩
  | false =>
    go_enter Tryz.func135, Tryz.ntmps135
    go_wp2_with (first | (go_at_call 152; refine HF.out.mono ?_; rintro e w' ⟨rfl, rfl⟩) | (go_at_call 153; refine HA.out.mono ?_; rintro e w' ⟨rfl, rfl⟩))
    go_ret
    exact ⟨by rw [HP.out]; rfl, rfl⟩
end Go.Proofs.YtkikgidmioofaaaGreat
/- Layer 8: may lengths be a code: the reference's. -/
namespace Go.Proofs.YtkikgidmioofaaaGreat
open Go.RowKit

def r7B (zs : List Int) : Bool := decide (zs.length ≤ 320) && zs.all lenB
set_option maxHeartbeats 1000000 in
theorem ref7Right_any (A : Option Addr) (l c : Nat) (zs : List Int) (B : Nat) (w : World) (hl : zs.length = l) (hm : l ≤ 1099511627776) (hb : Cells w B A (zs.map ic)) :
    Calls Tryz.prog 96 #[.slice A l c, .int .i64 15] w fun e w' => e = .returned (.bool (r7B zs)) ∧ w = w' := by
  have HC := Lib.hid hb
  have HL := Lib.hid hl
  have HFD : Hid (r7B zs = (decide (zs.length ≤ 320) && zs.all lenB)) := rfl
  clear hb hl
  go_enter Tryz.func96, Tryz.ntmps96
  go_wp2
  go_loopg [5] l (fun gk i wr => ∃ k : Nat, k + gk = l ∧ i = .int .i64 k ∧ wr = w ∧ ∀ j x, j < k → zs[j]? = some x → lenB x = true)
  case atStart => exact ⟨0, by omega, rfl, rfl, fun j _ h => absurd h (Nat.not_lt_zero j)⟩
  case round =>
    obtain ⟨k, hk, rfl, rfl, hall⟩ := hrel
    have HALL := Lib.hid hall
    clear hall
    by_cases h : k < l
    · obtain ⟨x, hx⟩ : ∃ x, zs[k]? = some x := ⟨_, List.getElem?_eq_getElem (by have := HL.out; omega)⟩
      obtain ⟨b, o, rfl, hbB, hc⟩ := HC.out (by rw [List.length_map, HL.out]; omega)
      have c0 : wr.cell? ⟨b, o + k, none⟩ = some (.int .i64 x) := hc k _ (by rw [List.getElem?_map, hx]; rfl)
      have HX := Lib.hid hx
      clear hc hx
      by_cases hx0 : x < 0
      · have HF : Hid (r7B zs = false) := by show _ = _; rw [HFD.out, all_bad HX.out (by simp [lenB]; omega), Bool.and_false]
        go_wp2
        go_ret
        exact ⟨by rw [HF.out]; rfl, rfl⟩
      by_cases hx1 : 15 < x
      · have HF : Hid (r7B zs = false) := by show _ = _; rw [HFD.out, all_bad HX.out (by simp [lenB]; omega), Bool.and_false]
        go_wp2
        go_ret
        exact ⟨by rw [HF.out]; rfl, rfl⟩
      · have HQ : Hid (lenB x = true) := by show _ = _; simp [lenB]; omega
        go_wp2
        go_roundg (gk - 1)
        case measure => omega
        case rel => exact ⟨k + 1, by omega, by go_num, rfl, fun j y hj hy => by
            by_cases e : j = k
            · subst e
              rw [HX.out] at hy
              injection hy with hy
              subst hy
              exact HQ.out
            · exact HALL.out j y (by omega) hy⟩
    · obtain rfl : k = l := by omega
      have HA : Hid (zs.all lenB = true) := all_good (fun j x hj hx => HALL.out j x (by have := HL.out; omega) hx)
      have HF : Hid (r7B zs = decide ((k : Int) < 321)) := by
        show _ = _
        rw [HFD.out, HA.out, HL.out, Bool.and_true]
        simp; omega
      go_wp2
      go_ret
      exact ⟨by rw [HF.out]; rfl, rfl⟩

set_option maxHeartbeats 2000000 in
theorem ref7Sum_any (A : Option Addr) (l c : Nat) (zs : List Int) (B : Nat) (w : World) (hl : zs.length = l) (hm : l ≤ 1000) (hb : Cells w B A (zs.map ic)) (hok : ∀ x ∈ zs, lenB x = true) :
    Calls Tryz.prog 97 #[.slice A l c] w fun e w' => e = .returned (.int .i64 (wsum zs : Nat)) ∧ w = w' := by
  have HC := Lib.hid hb
  have HL := Lib.hid hl
  have HOK := Lib.hid hok
  have HWL : Hid (∀ k, wsum (zs.take k) ≤ 1000 * 32768) := fun k => Nat.le_trans (wsum_le _) (Nat.mul_le_mul_right _ (by rw [List.length_take]; omega))
  clear hb hl hok
  go_enter Tryz.func97, Tryz.ntmps97
  go_wp2
  go_loopg [3, 4] l (fun gk v i wr => ∃ k : Nat, k + gk = l ∧ i = .int .i64 k ∧ v = .int .i64 (wsum (zs.take k) : Nat) ∧ wr = w)
  case atStart => exact ⟨0, by omega, rfl, rfl, rfl⟩
  case round =>
    obtain ⟨k, hk, rfl, rfl, rfl⟩ := hrel
    have hw1 := HWL.out k
    by_cases h : k < l
    · obtain ⟨x, hx⟩ : ∃ x, zs[k]? = some x := ⟨_, List.getElem?_eq_getElem (by have := HL.out; omega)⟩
      obtain ⟨b, o, rfl, hbB, hc⟩ := HC.out (by rw [List.length_map, HL.out]; omega)
      have c0 : wr.cell? ⟨b, o + k, none⟩ = some (.int .i64 x) := hc k _ (by rw [List.getElem?_map, hx]; rfl)
      obtain ⟨hx0, hx1⟩ := lenB_yes (HOK.out x (List.mem_of_getElem? hx))
      have HS := Lib.hid (wsum_snoc hx)
      have hw2 := HWL.out (k + 1)
      clear hc hx
      by_cases hxz : x = 0
      · have hwt : wt x = 0 := if_neg (by omega)
        rw [hwt] at HS
        have hd : (x == 0) = true := by simp [hxz]
        clear hwt hxz
        go_wp2
        go_roundg (gk - 1)
        case measure => omega
        case rel => exact ⟨k + 1, by omega, by go_num, by rw [HS.out, Nat.add_zero], rfl⟩
      · have hd : (x == 0) = false := by simp [hxz]
        obtain ⟨n, rfl⟩ := Int.eq_ofNat_of_zero_le hx0
        have hwt : wt (n : Int) = 2 ^ (15 - n) := by unfold wt; rw [if_pos (by omega), Int.toNat_natCast]
        rw [HS.out] at hw2
        rw [hwt] at HS hw2
        have hn1 : 1 ≤ n := by omega
        have hn15 : n ≤ 15 := by omega
        obtain ⟨t, ht⟩ : ∃ t, wsum (zs.take k) = t := ⟨_, rfl⟩
        rw [ht] at hw1 hw2 HS
        rw [ht]
        have HZ := Lib.hid hxz
        clear hwt ht hxz
        obtain ⟨G, hG⟩ : ∃ G, gk = G := ⟨_, rfl⟩
        rw [hG] at hk
        go_wp2
        go_loopg [5, 6] (15 - n) (fun g2 p i wr2 => ∃ j : Nat, j + g2 = 15 ∧ n ≤ j ∧ i = .int .i64 j ∧ p = .int .i64 ((2 ^ (j - n) : Nat) : Int) ∧ wr2 = wr)
        case atStart => exact ⟨n, by omega, Nat.le_refl _, rfl, by rw [Nat.sub_self]; rfl, rfl⟩
        case round =>
          obtain ⟨j, hj, hnj, rfl, rfl, rfl⟩ := hrel
          have hpj : 2 ^ (j - n) ≤ 32768 := Nat.le_trans (Nat.pow_le_pow_right (by decide) (by omega : j - n ≤ 15)) (by decide)
          by_cases hj15 : j < 15
          · have HP : Hid (2 ^ (j + 1 - n) = 2 ^ (j - n) * 2) := by show _ = _; rw [show j + 1 - n = (j - n) + 1 by omega, Nat.pow_succ]
            generalize 2 ^ (j - n) = p at *
            go_wp2
            go_roundg (gk - 1)
            case measure => omega
            case rel => exact ⟨j + 1, by omega, by omega, by go_num, by rw [HP.out]; go_num, rfl⟩
          · obtain rfl : j = 15 := by omega
            generalize 2 ^ (15 - n) = p at *
            go_wp2
            go_roundg (G - 1)
            case measure => omega
            case rel => exact ⟨k + 1, by omega, by go_num, by rw [HS.out]; go_num, rfl⟩
    · obtain rfl : k = l := by omega
      have ht : zs.take k = zs := List.take_of_length_le (by have := HL.out; omega)
      rw [ht]
      go_wp2
      go_ret
      exact ⟨rfl, rfl⟩
end Go.Proofs.YtkikgidmioofaaaGreat
/- Layer 8: the order of the symbols; the reference's Right. -/
namespace Go.Proofs.YtkikgidmioofaaaGreat
open Go.RowKit

theorem intElem : Elem Tryz.prog 65 3 (.int .i64 0) 1 8 := Elem.of Tryz.underlying65 (by kernel_rfl) rfl (by omega)
def nc (s : Nat) : Value := ic (s : Int)
/-- The symbols of a length, ahead of a place. -/
def ixs (zs : List Int) (n s : Nat) : List Nat := (List.range s).filter fun t => decide (zs[t]? = some (n : Int))
/-- .. of all lengths up to one. -/
def whole (zs : List Int) : Nat → List Nat
  | 0 => []
  | m + 1 => whole zs m ++ ixs zs (m + 1) zs.length
def ordN (zs : List Int) (n s : Nat) : List Nat := whole zs (n - 1) ++ ixs zs n s
theorem ordN_zero (zs : List Int) (n : Nat) : ordN zs n 0 = whole zs (n - 1) := by simp [ordN, ixs]
theorem ordN_all (zs : List Int) (n : Nat) (h : 1 ≤ n) : ordN zs n zs.length = whole zs n := by
  obtain ⟨m, rfl⟩ : ∃ m, n = m + 1 := ⟨n - 1, by omega⟩
  rfl
theorem ordN_yes {zs : List Int} {n s : Nat} (h : zs[s]? = some (n : Int)) : ordN zs n (s + 1) = ordN zs n s ++ [s] := by
  unfold ordN ixs
  rw [List.range_succ, List.filter_append, List.append_assoc]
  congr 1
  simp [h]
theorem ordN_no {zs : List Int} {n s : Nat} {x : Int} (h : zs[s]? = some x) (hx : x ≠ n) : ordN zs n (s + 1) = ordN zs n s := by
  unfold ordN ixs
  rw [List.range_succ, List.filter_append]
  congr 1
  simp [h, hx]
theorem ixs_len (zs : List Int) (n s : Nat) : (ixs zs n s).length ≤ s := Nat.le_trans (List.length_filter_le _ _) (by simp)
theorem whole_len (zs : List Int) : ∀ m, (whole zs m).length ≤ m * zs.length
  | 0 => by simp [whole]
  | m + 1 => by
    have h1 := whole_len zs m
    have h2 := ixs_len zs (m + 1) zs.length
    rw [whole, List.length_append, Nat.succ_mul]
    omega
theorem ordN_len (zs : List Int) (n s : Nat) (h1 : 1 ≤ n) (h2 : n ≤ 15) (hs : s ≤ zs.length) : (ordN zs n s).length ≤ 15 * zs.length := by
  have h3 := whole_len zs (n - 1)
  have h4 := ixs_len zs n s
  have h5 : (n - 1) * zs.length + zs.length ≤ 15 * zs.length := by
    rw [← Nat.succ_mul]; exact Nat.mul_le_mul_right _ (by omega)
  rw [ordN, List.length_append]
  omega
theorem whole_mem {zs : List Int} : ∀ {m s : Nat}, s ∈ whole zs m → ∃ n : Nat, zs[s]? = some (n : Int) ∧ 1 ≤ n ∧ n ≤ m
  | 0, _, h => by simp [whole] at h
  | m + 1, s, h => by
    rw [whole, List.mem_append] at h
    rcases h with h | h
    · obtain ⟨n, h1, h2, h3⟩ := whole_mem h
      exact ⟨n, h1, h2, by omega⟩
    · simp only [ixs, List.mem_filter, decide_eq_true_eq] at h
      exact ⟨m + 1, h.2, by omega, Nat.le_refl _⟩
theorem whole_has {zs : List Int} {s n : Nat} (h : zs[s]? = some (n : Int)) (h1 : 1 ≤ n) : ∀ {m : Nat}, n ≤ m → s ∈ whole zs m
  | 0, h2 => by omega
  | m + 1, h2 => by
    rw [whole, List.mem_append]
    by_cases e : n = m + 1
    · right
      subst e
      simp only [ixs, List.mem_filter, decide_eq_true_eq, List.mem_range]
      exact ⟨(List.getElem?_eq_some_iff.1 h).1, h⟩
    · exact .inl (whole_has h h1 (by omega))
def ltx (zs : List Int) (s t : Nat) : Prop := zs.getD s 0 < zs.getD t 0 ∨ (zs.getD s 0 = zs.getD t 0 ∧ s < t)
theorem getD_of {zs : List Int} {s : Nat} {n : Int} (h : zs[s]? = some n) : zs.getD s 0 = n := by simp [List.getD, h]
theorem whole_sorted (zs : List Int) : ∀ m, (whole zs m).Pairwise (ltx zs)
  | 0 => by simp [whole]
  | m + 1 => by
    rw [whole, List.pairwise_append]
    refine ⟨whole_sorted zs m, ?_, fun a ha b hb => ?_⟩
    · have : (ixs zs (m + 1) zs.length).Pairwise (· < ·) := List.Pairwise.filter _ List.pairwise_lt_range
      refine this.imp_of_mem fun {a b} ha hb hab => .inr ⟨?_, hab⟩
      simp only [ixs, List.mem_filter, decide_eq_true_eq] at ha hb
      rw [getD_of ha.2, getD_of hb.2]
    · obtain ⟨n, h1, h2, h3⟩ := whole_mem ha
      simp only [ixs, List.mem_filter, decide_eq_true_eq] at hb
      left
      rw [getD_of h1, getD_of hb.2]
      omega
/-- The symbols in their order. -/
def ordL (zs : List Int) : List Nat := whole zs 15
set_option maxHeartbeats 1000000 in
theorem order_any (A : Option Addr) (l c : Nat) (zs : List Int) (B : Nat) (w : World) (hl : zs.length = l) (hm : l ≤ 1000) (hb : Cells w B A (zs.map ic)) (hB : B ≤ w.heap.size) :
    Calls Tryz.prog 112 #[.slice A l c] w fun e w' => ∃ A' c', e = .returned (.slice A' (ordL zs).length c') ∧
      w'.ownsRow w.heap.size 3 1 (.slice A' (ordL zs).length c') (ordL zs).length ((ordL zs).map nc) ∧ Below w.heap.size w w' := by
  have HC := Lib.hid hb
  have HL := Lib.hid hl
  have HB := Lib.hid hB
  clear hb hl hB
  go_enter Tryz.func112, Tryz.ntmps112
  go_wp2
  go_loopg [3, 4] 15 (fun gk v i wr => ∃ (n : Nat) (Ak : Option Addr) (ck : Nat), n + gk = 16 ∧ 1 ≤ n ∧ i = .int .i64 n ∧ v = .slice Ak (whole zs (n - 1)).length ck ∧
    wr.ownsRow w.heap.size 3 1 v (whole zs (n - 1)).length ((whole zs (n - 1)).map nc) ∧ Below w.heap.size w wr)
  case atStart => exact ⟨1, none, 0, by omega, Nat.le_refl _, rfl, rfl, World.ownsRow_nil _ _ _ _, Below.refl _ _⟩
  case round =>
    obtain ⟨n, Ak, ck, hn, hn1, rfl, rfl, ho, hb⟩ := hrel
    by_cases h : n ≤ 15
    · have hd : decide ((n : Int) ≤ 15) = true := by simp; omega
      obtain ⟨G, hG⟩ : ∃ G, gk = G := ⟨_, rfl⟩
      rw [hG] at hn
      have HO := Lib.hid ho
      have HBE := Lib.hid hb
      clear ho hb
      go_wp2
      go_loopg [3, 13] l (fun gk v i w2 => ∃ (k : Nat) (A2 : Option Addr) (c2 : Nat), k + gk = l ∧ i = .int .i64 k ∧ v = .slice A2 (ordN zs n k).length c2 ∧
        w2.ownsRow w.heap.size 3 1 v (ordN zs n k).length ((ordN zs n k).map nc) ∧ Below w.heap.size w w2)
      case atStart => exact ⟨0, Ak, ck, by omega, rfl, by rw [ordN_zero], by rw [ordN_zero]; exact HO.out, HBE.out⟩
      case round =>
        obtain ⟨k, A2, c2, hk, rfl, rfl, ho2, hb2⟩ := hrel
        have HO2 := Lib.hid ho2
        have HB2 := Lib.hid hb2
        clear ho2 hb2 HO HBE
        by_cases hkl : k < l
        · obtain ⟨x, hx⟩ : ∃ x, zs[k]? = some x := ⟨_, List.getElem?_eq_getElem (by have := HL.out; omega)⟩
          obtain ⟨b, o, rfl, hbB, hc⟩ := (HC.out.below HB2.out HB.out) (by rw [List.length_map, HL.out]; omega)
          have c0 : wr.cell? ⟨b, o + k, none⟩ = some (.int .i64 x) := hc k _ (by rw [List.getElem?_map, hx]; rfl)
          have HX := Lib.hid hx
          clear hc hx
          have hlen := ordN_len zs n k hn1 h (by have := HL.out; omega)
          rw [HL.out] at hlen
          by_cases he : x = n
          · have hde : (x == (n : Int)) = true := by simp [he]
            subst he
            have HS := Lib.hid (ordN_yes HX.out)
            generalize ordN zs n k = L at *
            have hbs := HB2.out.size
            go_wp2_with (at_builtin; refine wpList_app1 _ intElem rfl (.tmp 21) (.tmp 23) rfl w.heap.size (.slice A2 L.length c2) L.length _ rfl HO2.out _ rfl rfl (by simp [Value.oneCell']) (by unfold maxLen; omega) (by omega) hbs ?_; intro A3 c3 w3 hA; have HA := Lib.hid hA; clear hA)
            go_roundg (gk - 1)
            case measure => omega
            case rel =>
              refine ⟨k + 1, A3, c3, by omega, by go_num, by rw [HS.out, List.length_append]; rfl, ?_, HA.out.below HB2.out hbs (own_base HO2.out)⟩
              have := HA.out.own
              rw [HS.out, List.length_append, List.map_append]
              exact this
          · have hde : (x == (n : Int)) = false := by simp [he]
            have HS := Lib.hid (ordN_no HX.out he)
            clear he
            go_wp2
            go_roundg (gk - 1)
            case measure => omega
            case rel => exact ⟨k + 1, A2, c2, by omega, by go_num, by rw [HS.out], by rw [HS.out]; exact HO2.out, HB2.out⟩
        · obtain rfl : k = l := by omega
          have HW : Hid (ordN zs n k = whole zs n) := by show _ = _; rw [← HL.out]; exact ordN_all zs n hn1
          rw [HW.out] at HO2 ⊢
          go_wp2
          go_roundg (G - 1)
          case measure => omega
          case rel => exact ⟨n + 1, A2, c2, by omega, by omega, by go_num, rfl, HO2.out, HB2.out⟩
    · obtain rfl : n = 16 := by omega
      go_wp2
      go_ret
      exact ⟨Ak, ck, rfl, ho, hb⟩

theorem caR_empty : caR [] = false := by decide
theorem caR_r7 (zs : List Int) : caR zs = (r7B zs && (decide (zs.sum = 1) || decide (wsum zs = 32768))) := by
  unfold caR r7B
  rw [Bool.or_comm (decide (wsum zs = 32768))]
set_option maxHeartbeats 1000000 in
theorem ref8Right_any (A : Option Addr) (l c : Nat) (zs : List Int) (B : Nat) (w : World) (hl : zs.length = l) (hm : l ≤ 1099511627776) (hb : Cells w B A (zs.map ic)) :
    Calls Tryz.prog 59 #[.slice A l c] w fun e w' => e = .returned (.bool (caR zs)) ∧ w = w' := by
  by_cases h0 : l = 0
  · subst h0
    have hz : zs = [] := List.eq_nil_of_length_eq_zero hl
    subst hz
    go_enter Tryz.func59, Tryz.ntmps59
    go_wp2
    go_ret
    exact ⟨rfl, rfl⟩
  have hl1 : decide ((l : Int) < 1) = false := by simp; omega
  have HR := Lib.hid (ref7Right_any A l c zs B w hl hm hb)
  cases hr : r7B zs with
  | false =>
    rw [hr] at HR
    have HF : Hid (caR zs = false) := by show _ = _; rw [caR_r7, hr]; rfl
    clear hr hb hl h0
    go_enter Tryz.func59, Tryz.ntmps59
    go_wp2_with (go_at_call 96; refine HR.out.mono ?_; rintro e w' ⟨rfl, rfl⟩)
    go_ret
    exact ⟨by rw [HF.out]; rfl, rfl⟩
  | true =>
    rw [hr] at HR
    have HF : Hid (caR zs = (decide (zs.sum = 1) || decide (wsum zs = 32768))) := by show _ = _; rw [caR_r7, hr, Bool.true_and]
    have hr' : zs.length ≤ 320 ∧ ∀ x ∈ zs, lenB x = true := by
      unfold r7B at hr
      rw [Bool.and_eq_true, decide_eq_true_eq, List.all_eq_true] at hr
      exact hr
    have HS := Lib.hid (ref7Sum_any A l c zs B w hl (by omega) hb hr'.2)
    have HLB := Lib.hid hr'.2
    have hl320 : l ≤ 320 := by omega
    have HC := Lib.hid hb
    have HL := Lib.hid hl
    clear hr hr' hb hl
    go_enter Tryz.func59, Tryz.ntmps59
    go_wp2_with (go_at_call 96; refine HR.out.mono ?_; rintro e w' ⟨rfl, rfl⟩)
    go_loopg [3, 4] l (fun gk v i wr => ∃ k : Nat, k + gk = l ∧ i = .int .i64 k ∧ v = .int .i64 (zs.take k).sum ∧ wr = w)
    case atStart => exact ⟨0, by omega, rfl, rfl, rfl⟩
    case round =>
      obtain ⟨k, hk, rfl, rfl, rfl⟩ := hrel
      have hbd := sum_bd (fun x hx => HLB.out x (List.mem_of_mem_take hx) : ∀ x ∈ zs.take k, _)
      rw [List.length_take, Nat.min_eq_left (by have := HL.out; omega)] at hbd
      by_cases h : k < l
      · obtain ⟨x, hx⟩ : ∃ x, zs[k]? = some x := ⟨_, List.getElem?_eq_getElem (by have := HL.out; omega)⟩
        obtain ⟨b, o, rfl, hbB, hc⟩ := HC.out (by rw [List.length_map, HL.out]; omega)
        have c0 : wr.cell? ⟨b, o + k, none⟩ = some (.int .i64 x) := hc k _ (by rw [List.getElem?_map, hx]; rfl)
        obtain ⟨hx0, hx1⟩ := lenB_yes (HLB.out x (List.mem_of_getElem? hx))
        have HS2 := Lib.hid (sum_snoc hx)
        clear hc hx
        generalize (zs.take k).sum = t at *
        go_wp2
        go_roundg (gk - 1)
        case measure => omega
        case rel => exact ⟨k + 1, by omega, by go_num, by rw [HS2.out], rfl⟩
      · obtain rfl : k = l := by omega
        have ht : zs.take k = zs := List.take_of_length_le (by have := HL.out; omega)
        rw [ht] at hbd ⊢
        clear ht
        generalize zs.sum = t at *
        generalize wsum zs = u at *
        by_cases hs : t = 1
        · subst hs
          go_wp2
          go_ret
          exact ⟨by rw [HF.out]; rfl, rfl⟩
        · have hd3 : (t == 1) = false := by simp [hs]
          rw [decide_eq_false hs, Bool.false_or] at HF
          have HE : Hid (((u : Int) == 32768) = decide (u = 32768)) := by show _ = _; rw [Bool.eq_iff_iff]; simp; omega
          clear hs
          go_wp2_with (go_at_call 97; refine HS.out.mono ?_; rintro e w' ⟨rfl, rfl⟩)
          go_ret
          exact ⟨by rw [HF.out, ← HE.out]; rfl, rfl⟩
end Go.Proofs.YtkikgidmioofaaaGreat
/- Layer 10: how long a match is: the program's, the reference's. -/
namespace Go.Proofs.YtkikgidmioofaaaGreat
open Go.RowKit

theorem runM_step {bs : List UInt8} {a d k n : Nat} {x : UInt8} (h1 : bs[a + n]? = some x) (h2 : bs[a + n - d]? = some x) : runM bs a d (k + 1) n = runM bs a d k (n + 1) := by
  rw [runM, if_pos]
  rw [List.getD, List.getD, h1, h2]
theorem runM_stop {bs : List UInt8} {a d k n : Nat} {x y : UInt8} (h1 : bs[a + n]? = some x) (h2 : bs[a + n - d]? = some y) (h : x ≠ y) : runM bs a d (k + 1) n = n := by
  rw [runM, if_neg]
  rw [List.getD, List.getD, h1, h2]
  exact h
set_option maxRecDepth 100000 in
set_option maxHeartbeats 2000000 in
theorem mlen_any (A : Option Addr) (l c : Nat) (bs : List UInt8) (B : Nat) (a d : Int) (w : World) (hl : bs.length = l) (hm : l ≤ 1099511627776) (hb : Bytes w B A bs) :
    Calls Tryz.prog 154 #[.slice A l c, .int .i64 a, .int .i64 d] w fun e w' => e = .returned (.int .i64 (lenI bs a d : Nat)) ∧ ∃ m, w' = w.drewN m := by
  have HL := Lib.hid hl
  by_cases h : a < 0
  · have HF : Hid (lenI bs a d = 0) := lenI_no (by omega)
    have hd : decide (a < 0) = true := decide_eq_true h
    clear h hb HL
    go_enter Tryz.func154, Tryz.ntmps154
    go_wp2
    go_ret
    exact ⟨by rw [HF.out]; rfl, 0, rfl⟩
  have g20 := h; clear h
  by_cases h : (l : Int) ≤ a
  · have HF : Hid (lenI bs a d = 0) := lenI_no (by omega)
    have hd : decide ((l : Int) ≤ a) = true := decide_eq_true h
    have hd0 : decide (a < 0) = false := decide_eq_false (by omega)
    clear h hb HL
    go_enter Tryz.func154, Tryz.ntmps154
    go_wp2
    go_ret
    exact ⟨by rw [HF.out]; rfl, 0, rfl⟩
  have g21 := h; clear h
  by_cases h : d < 1
  · have HF : Hid (lenI bs a d = 0) := lenI_no (by omega)
    have hd : decide (d < 1) = true := decide_eq_true h
    have hd0 : decide (a < 0) = false := decide_eq_false (by omega)
    have hd1 : decide ((l : Int) ≤ a) = false := decide_eq_false (by omega)
    clear h hb HL
    go_enter Tryz.func154, Tryz.ntmps154
    go_wp2
    go_ret
    exact ⟨by rw [HF.out]; rfl, 0, rfl⟩
  have g22 := h; clear h
  by_cases h : 32768 < d
  · have HF : Hid (lenI bs a d = 0) := lenI_no (by omega)
    have hd : decide (32768 < d) = true := decide_eq_true h
    have hd0 : decide (a < 0) = false := decide_eq_false (by omega)
    have hd1 : decide ((l : Int) ≤ a) = false := decide_eq_false (by omega)
    have hd2 : decide (d < 1) = false := decide_eq_false (by omega)
    clear h hb HL
    go_enter Tryz.func154, Tryz.ntmps154
    go_wp2
    go_ret
    exact ⟨by rw [HF.out]; rfl, 0, rfl⟩
  have g23 := h; clear h
  by_cases h : a < d
  · have HF : Hid (lenI bs a d = 0) := lenI_no (by omega)
    have hd : decide (a < d) = true := decide_eq_true h
    have hd0 : decide (a < 0) = false := decide_eq_false (by omega)
    have hd1 : decide ((l : Int) ≤ a) = false := decide_eq_false (by omega)
    have hd2 : decide (d < 1) = false := decide_eq_false (by omega)
    have hd3 : decide (32768 < d) = false := decide_eq_false (by omega)
    clear h hb HL
    go_enter Tryz.func154, Tryz.ntmps154
    go_wp2
    go_ret
    exact ⟨by rw [HF.out]; rfl, 0, rfl⟩
  have g24 := h; clear h
  obtain ⟨n, rfl⟩ := Int.eq_ofNat_of_zero_le (show 0 ≤ a by omega)
  obtain ⟨k, rfl⟩ := Int.eq_ofNat_of_zero_le (show 0 ≤ d by omega)
  have q1 : n < l := by omega
  have q2 : 1 ≤ k := by omega
  have q3 : k ≤ 32768 := by omega
  have q4 : k ≤ n := by omega
  have HR0 : Hid (lenI bs (n : Int) (k : Int) = runM bs n k (capM bs n) 0) := lenI_at bs (by omega) q2 q3 q4
  have HCAP : Hid (capM bs n = min 258 (l - n)) := by show _ = _; rw [capM, hl]
  have hd0 : decide ((n : Int) < 0) = false := decide_eq_false (by omega)
  have hd1 : decide ((l : Int) ≤ (n : Int)) = false := decide_eq_false (by omega)
  have hd2 : decide ((k : Int) < 1) = false := decide_eq_false (by omega)
  have hd3 : decide ((32768 : Int) < (k : Int)) = false := decide_eq_false (by omega)
  have hd4 : decide ((n : Int) < (k : Int)) = false := decide_eq_false (by omega)
  obtain ⟨b, o, rfl, hbB, hc⟩ := hb (by rw [byteCells_length]; omega)
  have HC := Lib.hid hc
  clear hc g20 g21 g22 g23 g24 hb hl
  go_enter Tryz.func154, Tryz.ntmps154
  go_wp2
  go_loopg [7] (capM bs n) (fun gk i wr => ∃ j m : Nat, j + gk = capM bs n ∧ i = .int .i64 j ∧ runM bs n k gk j = lenI bs (n : Int) (k : Int) ∧ wr = w.drewN m)
  case atStart => exact ⟨0, 0, by omega, rfl, HR0.out.symm, rfl⟩
  case round =>
    obtain ⟨j, m, hj, rfl, hrun, rfl⟩ := hrel
    have HRUN := Lib.hid hrun
    clear hrun
    by_cases h : gk = 0
    · subst h
      have hjc : j = lenI bs (n : Int) (k : Int) := by have := HRUN.out; rw [runM] at this; exact this
      have hcp := HCAP.out
      have HJ := Lib.hid hjc
      clear hjc
      by_cases h258 : j < 258
      · have t0 : decide ((j : Int) < 258) = true := decide_eq_true (by omega)
        have t1 : decide ((n : Int) + (j : Int) < (l : Int)) = false := decide_eq_false (by omega)
        go_upto_region 27 with (fail)
        go_region
        go_wp2
        go_ret
        exact ⟨by rw [← HJ.out]; rfl, m + 1, rfl⟩
      · have t0 : decide ((j : Int) < 258) = false := decide_eq_false (by omega)
        go_upto_region 27 with (fail)
        go_region
        go_wp2
        go_ret
        exact ⟨by rw [← HJ.out]; rfl, m + 1, rfl⟩
    · have hcp := HCAP.out
      have t0 : decide ((j : Int) < 258) = true := decide_eq_true (by omega)
      have t1 : decide ((n : Int) + (j : Int) < (l : Int)) = true := decide_eq_true (by omega)
      obtain ⟨x, hx⟩ : ∃ x, bs[n + j]? = some x := ⟨_, List.getElem?_eq_getElem (by have := HL.out; omega)⟩
      obtain ⟨y, hy⟩ : ∃ y, bs[n + j - k]? = some y := ⟨_, List.getElem?_eq_getElem (by have := HL.out; omega)⟩
      have c0 : w.cell? ⟨b, o + (n + j), none⟩ = some (.int .u8 (x.toNat : Int)) := HC.out _ _ (byteCells_get hx)
      have c1 : w.cell? ⟨b, o + (n + j - k), none⟩ = some (.int .u8 (y.toNat : Int)) := HC.out _ _ (byteCells_get hy)
      obtain ⟨p, rfl⟩ : ∃ p, gk = p + 1 := ⟨gk - 1, by omega⟩
      by_cases hxy : x = y
      · have HS : Hid (runM bs n k p (j + 1) = lenI bs (n : Int) (k : Int)) := by show _ = _; rw [← HRUN.out, runM_step hx (by rw [hy, hxy])]
        have t2 : (x.toNat == y.toNat) = true := by simp [hxy]
        have t3 : ((x.toNat : Int) == (y.toNat : Int)) = true := by simp [hxy]
        have t4 : ((x.toNat : Int) != (y.toNat : Int)) = false := by simp [hxy]
        have tw : IntKind.i64.wrap ((n : Int) + (j : Int)) = (n : Int) + (j : Int) := IntWalk.i64_in _ (by omega)
        have tw2 : IntKind.i64.wrap ((n : Int) + (j : Int) - (k : Int)) = (n : Int) + (j : Int) - (k : Int) := IntWalk.i64_in _ (by omega)
        have tn : ((n : Int) + (j : Int) - (k : Int)).toNat = n + j - k := by omega
        have tn0 : (0 : Int) ≤ (n : Int) + (j : Int) - (k : Int) := by omega
        have tn1 : (n : Int) + (j : Int) - (k : Int) < (l : Int) := by omega
        have tn2 : (n : Int) + (j : Int) < (l : Int) := by omega
        clear hx hy hxy h hcp
        go_upto_region 27 with (fail)
        go_region
        go_wp2
        go_roundg p
        case measure => omega
        case rel => exact ⟨j + 1, m + 1, by omega, by go_num, HS.out, rfl⟩
      · have HS : Hid (j = lenI bs (n : Int) (k : Int)) := by show _ = _; rw [← HRUN.out, runM_stop hx hy hxy]
        have hne : ¬ (x.toNat : Int) = (y.toNat : Int) := fun e => hxy (UInt8.toNat_inj.1 (by omega))
        have t3 : ((x.toNat : Int) == (y.toNat : Int)) = false := by simpa using hne
        have t4 : ((x.toNat : Int) != (y.toNat : Int)) = true := by simpa using hne
        have tw : IntKind.i64.wrap ((n : Int) + (j : Int)) = (n : Int) + (j : Int) := IntWalk.i64_in _ (by omega)
        have tw2 : IntKind.i64.wrap ((n : Int) + (j : Int) - (k : Int)) = (n : Int) + (j : Int) - (k : Int) := IntWalk.i64_in _ (by omega)
        have tn : ((n : Int) + (j : Int) - (k : Int)).toNat = n + j - k := by omega
        have tn0 : (0 : Int) ≤ (n : Int) + (j : Int) - (k : Int) := by omega
        have tn1 : (n : Int) + (j : Int) - (k : Int) < (l : Int) := by omega
        have tn2 : (n : Int) + (j : Int) < (l : Int) := by omega
        clear hx hy hxy h hne hcp
        go_upto_region 27 with (fail)
        go_region
        go_wp2
        go_ret
        exact ⟨by rw [← HS.out]; rfl, m + 1, rfl⟩
end Go.Proofs.YtkikgidmioofaaaGreat
/- Layer 10's Best of the reference: the best match. -/
namespace Go.Proofs.YtkikgidmioofaaaGreat
open Go.RowKit

end Go.Proofs.YtkikgidmioofaaaGreat
