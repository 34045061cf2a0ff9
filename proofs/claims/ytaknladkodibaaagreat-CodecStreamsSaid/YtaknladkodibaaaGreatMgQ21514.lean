/- Layer 8: may lengths be a code? -/
import Derived.Test.YtaknladkodibaaaGreatRows
import Derived.Test.YtaknladkodibaaaGreatMgQ21505
import Derived.Test.YtaknladkodibaaaGreatMgQ21506
import Derived.Deep.DeepCutAuto
import Derived.IntWalk
import Derived.Outline
import Derived.MakeChecks
import Derived.RegionTactic
namespace Go.Proofs.YtaknladkodibaaaGreat
open Go.RowKit

def ic (n : Int) : Value := .int .i64 n
/-- What a length of a code takes of all. -/
def wt (n : Int) : Nat := if 0 < n then 2 ^ (15 - n.toNat) else 0
def wsum (zs : List Int) : Nat := (zs.map wt).sum
def lenB (n : Int) : Bool := decide (0 ≤ n) && decide (n ≤ 15)
def fullB (zs : List Int) : Bool := decide (zs.length ≤ 320) && zs.all lenB && decide (wsum zs = 32768)
theorem lenB_yes {n : Int} (h : lenB n = true) : 0 ≤ n ∧ n ≤ 15 := by simpa [lenB] using h
theorem wt_le (n : Int) : wt n ≤ 32768 := by
  unfold wt
  split
  · exact Nat.le_trans (Nat.pow_le_pow_right (by decide) (Nat.sub_le 15 _)) (by decide)
  · exact Nat.zero_le _
theorem take_snoc' {α : Type} {l : List α} {k : Nat} {x : α} (h : l[k]? = some x) : l.take (k + 1) = l.take k ++ [x] := by rw [List.take_add_one, h]; rfl
theorem wsum_snoc {zs : List Int} {k : Nat} {x : Int} (h : zs[k]? = some x) : wsum (zs.take (k + 1)) = wsum (zs.take k) + wt x := by
  unfold wsum
  rw [take_snoc' h]
  simp
theorem wsum_le (zs : List Int) : wsum zs ≤ zs.length * 32768 := by
  induction zs with
  | nil => exact Nat.zero_le _
  | cons x l ih =>
    have := wt_le x
    unfold wsum at ih ⊢
    rw [List.map_cons, List.sum_cons, List.length_cons, Nat.succ_mul]
    omega
theorem all_bad {zs : List Int} {k : Nat} {x : Int} {f : Int → Bool} (h : zs[k]? = some x) (hx : f x = false) : zs.all f = false := by
  rw [List.all_eq_false]
  exact ⟨x, List.mem_of_getElem? h, by rw [hx]; decide⟩
theorem all_good {zs : List Int} {f : Int → Bool} (h : ∀ j x, j < zs.length → zs[j]? = some x → f x = true) : zs.all f = true := by
  rw [List.all_eq_true]
  intro x hx
  obtain ⟨j, hj⟩ := List.mem_iff_getElem?.1 hx
  exact h j x (List.getElem?_eq_some_iff.1 hj).1 hj

set_option maxHeartbeats 400000 in
theorem rlen_any (n : Int) (w : World) : Calls Tryz.prog 99 #[.int .i64 n] w fun e w' => e = .returned (.bool (lenB n)) ∧ w = w' := by
  by_cases h1 : 0 ≤ n
  · by_cases h2 : n ≤ 15
    · have HD : Hid (lenB n = true) := by show _ = _; simp [lenB, h1, h2]
      go_enter Tryz.func99, Tryz.ntmps99
      go_wp2
      go_ret
      exact ⟨by rw [HD.out]; rfl, rfl⟩
    · have HD : Hid (lenB n = false) := by show _ = _; simp [lenB, h2]
      have h2' : decide (n ≤ 15) = false := by simpa using h2
      clear h2
      go_enter Tryz.func99, Tryz.ntmps99
      go_wp2
      go_ret
      exact ⟨by rw [HD.out]; rfl, rfl⟩
  · have HD : Hid (lenB n = false) := by show _ = _; simp [lenB, h1]
    go_enter Tryz.func99, Tryz.ntmps99
    go_wp2
    go_ret
    exact ⟨by rw [HD.out]; rfl, rfl⟩

set_option maxHeartbeats 1000000 in
theorem full_any (A : Option Addr) (l c : Nat) (zs : List Int) (B : Nat) (w : World) (hl : zs.length = l) (hm : l ≤ 9223372036854775807) (hb : Cells w B A (zs.map ic)) :
    Calls Tryz.prog 87 #[.slice A l c] w fun e w' => e = .returned (.bool (fullB zs)) ∧ w = w' := by
  have HC := Lib.hid hb
  have HL := Lib.hid hl
  have HFD : Hid (fullB zs = (decide (zs.length ≤ 320) && zs.all lenB && decide (wsum zs = 32768))) := rfl
  clear hb hl
  by_cases h320 : 320 < l
  · have hd : decide ((320 : Int) < (l : Int)) = true := by simp; omega
    have HF : Hid (fullB zs = false) := by show _ = _; rw [HFD.out, HL.out, decide_eq_false (by omega)]; rfl
    clear h320
    go_enter Tryz.func87, Tryz.ntmps87
    go_wp2
    go_ret
    exact ⟨by rw [HF.out]; rfl, rfl⟩
  have hd : decide ((320 : Int) < (l : Int)) = false := by simp; omega
  have HWL : Hid (∀ k, wsum (zs.take k) ≤ 320 * 32768) := fun k => Nat.le_trans (wsum_le _) (Nat.mul_le_mul_right _ (by rw [List.length_take, HL.out]; omega))
  go_enter Tryz.func87, Tryz.ntmps87
  go_wp2
  go_loopg [3, 11] l (fun gk v i wr => ∃ k : Nat, k + gk = l ∧ i = .int .i64 k ∧ v = .int .i64 (32768 - (wsum (zs.take k) : Nat)) ∧ wr = w ∧ ∀ j x, j < k → zs[j]? = some x → lenB x = true)
  case atStart => exact ⟨0, by omega, rfl, rfl, rfl, fun j _ h => absurd h (Nat.not_lt_zero j)⟩
  case round =>
    obtain ⟨k, hk, rfl, rfl, rfl, hall⟩ := hrel
    have HALL := Lib.hid hall
    clear hall
    have hw1 := HWL.out k
    by_cases h : k < l
    · obtain ⟨x, hx⟩ : ∃ x, zs[k]? = some x := ⟨_, List.getElem?_eq_getElem (by have := HL.out; omega)⟩
      obtain ⟨b, o, rfl, hbB, hc⟩ := HC.out (by rw [List.length_map, HL.out]; omega)
      have c0 : wr.cell? ⟨b, o + k, none⟩ = some (.int .i64 x) := hc k _ (by rw [List.getElem?_map, hx]; rfl)
      have HX := Lib.hid hx
      have HS := Lib.hid (wsum_snoc hx)
      have hw2 := HWL.out (k + 1)
      have HR := Lib.hid (fun W => rlen_any x W)
      obtain ⟨q, hq⟩ : ∃ q, lenB x = q := ⟨_, rfl⟩
      have HQ := Lib.hid hq
      rw [hq] at HR
      clear hc hx hq
      cases q with
      | false =>
        have HF : Hid (fullB zs = false) := by show _ = _; rw [HFD.out, all_bad HX.out HQ.out, Bool.and_false]; rfl
        go_wp2_with (go_at_call 99; refine (HR.out _).mono ?_; rintro e w' ⟨rfl, rfl⟩)
        go_ret
        exact ⟨by rw [HF.out]; rfl, rfl⟩
      | true =>
        obtain ⟨hx0, hx1⟩ := lenB_yes HQ.out
        rw [HS.out] at hw2
        by_cases hx2 : 0 < x
        · have hsh : (2 : Int) ^ (15 - x).toNat = ((wt x : Nat) : Int) := by
            unfold wt
            rw [if_pos hx2, show (15 - x).toNat = 15 - x.toNat by omega]
            push_cast
            rfl
          have hwt := wt_le x
          obtain ⟨t, ht⟩ : ∃ t, wt x = t := ⟨_, rfl⟩
          rw [ht] at hsh hwt hw2 HS
          clear ht
          go_wp2_with (go_at_call 99; refine (HR.out _).mono ?_; rintro e w' ⟨rfl, rfl⟩)
          go_roundg (gk - 1)
          case measure => omega
          case rel => exact ⟨k + 1, by omega, by go_num, by rw [HS.out]; go_num, rfl, fun j y hj hy => by
            by_cases e : j = k
            · subst e
              rw [HX.out] at hy
              injection hy with hy
              subst hy
              exact HQ.out
            · exact HALL.out j y (by omega) hy⟩
        · have hwt : wt x = 0 := if_neg hx2
          rw [hwt] at HS
          have hd2 : decide ((0 : Int) < x) = false := by simp; omega
          clear hwt hx2
          go_wp2_with (go_at_call 99; refine (HR.out _).mono ?_; rintro e w' ⟨rfl, rfl⟩)
          go_roundg (gk - 1)
          case measure => omega
          case rel => exact ⟨k + 1, by omega, by go_num, by rw [HS.out, Nat.add_zero], rfl, fun j y hj hy => by
            by_cases e : j = k
            · subst e
              rw [HX.out] at hy
              injection hy with hy
              subst hy
              exact HQ.out
            · exact HALL.out j y (by omega) hy⟩
    · obtain rfl : k = l := by omega
      have ht : zs.take k = zs := List.take_of_length_le (by have := HL.out; omega)
      have HA : Hid (zs.all lenB = true) := all_good (fun j x hj hx => HALL.out j x (by have := HL.out; omega) hx)
      rw [ht] at hw1
      rw [ht]
      clear ht
      have HF : Hid (fullB zs = decide (wsum zs = 32768)) := by show _ = _; rw [HFD.out, HA.out, HL.out, decide_eq_true (show k ≤ 320 by omega)]; rfl
      generalize wsum zs = s at *
      by_cases hs : s = 32768
      · subst hs
        go_wp2
        go_ret
        exact ⟨by rw [HF.out]; rfl, rfl⟩
      · have hd3 : ((32768 : Int) - (s : Int) == 0) = false := by simp; omega
        rw [decide_eq_false hs] at HF
        clear hs
        go_wp2
        go_ret
        exact ⟨by rw [HF.out]; rfl, rfl⟩
end Go.Proofs.YtaknladkodibaaaGreat
/- Layer 8: may lengths be a code: one symbol alone; the reference's. -/
namespace Go.Proofs.YtaknladkodibaaaGreat
open Go.RowKit

def zobB (n : Int) : Bool := decide (n = 0) || decide (n = 1)
def aloneB (zs : List Int) : Bool := decide (zs.length ≤ 320) && zs.all zobB && decide (zs.sum = 1)
def caR (zs : List Int) : Bool := decide (zs.length ≤ 320) && zs.all lenB && (decide (wsum zs = 32768) || decide (zs.sum = 1))
theorem sum_snoc {zs : List Int} {k : Nat} {x : Int} (h : zs[k]? = some x) : (zs.take (k + 1)).sum = (zs.take k).sum + x := by
  rw [take_snoc' h]
  simp
theorem sum_bd {zs : List Int} (h : ∀ x ∈ zs, lenB x = true) : 0 ≤ zs.sum ∧ zs.sum ≤ zs.length * 15 := by
  induction zs with
  | nil => exact ⟨Int.le_refl _, Int.le_refl _⟩
  | cons x l ih =>
    have h1 := lenB_yes (h x (by simp))
    have h2 := ih (fun y hy => h y (by simp [hy]))
    rw [List.sum_cons, List.length_cons]
    omega
theorem mem_of_upto {zs : List Int} {k : Nat} {f : Int → Bool} (h : ∀ j x, j < k → zs[j]? = some x → f x = true) : ∀ x ∈ zs.take k, f x = true := fun x hx => by
  obtain ⟨j, hj⟩ := List.mem_iff_getElem?.1 hx
  rw [List.getElem?_take] at hj
  split at hj
  · rename_i hk; exact h j x hk hj
  · cases hj
/-- Just one symbol, of length 1: all are 0 or 1, and their sum is 1. -/
theorem alone_iff {zs : List Int} (h : zs.all lenB = true) (hs : zs.sum = 1) : zs.all zobB = true := by
  rw [List.all_eq_true] at h ⊢
  induction zs with
  | nil => intro x hx; cases hx
  | cons a l ih =>
    have ha := lenB_yes (h a (by simp))
    have hl := sum_bd (fun y hy => h y (List.mem_cons_of_mem _ hy))
    rw [List.sum_cons] at hs
    intro x hx
    rcases List.mem_cons.1 hx with rfl | hx
    · simp [zobB]; omega
    · by_cases h0 : a = 0
      · exact ih (fun y hy => h y (List.mem_cons_of_mem _ hy)) (by omega) x hx
      · have hz : l.sum = 0 := by omega
        have : ∀ (l : List Int), (∀ y ∈ l, lenB y = true) → l.sum = 0 → ∀ y ∈ l, y = 0 := by
          intro l
          induction l with
          | nil => intro _ _ y hy; cases hy
          | cons b t ih2 =>
            intro h1 h2 y hy
            have hb := lenB_yes (h1 b (by simp))
            have ht := sum_bd (fun z hz => h1 z (List.mem_cons_of_mem _ hz))
            rw [List.sum_cons] at h2
            rcases List.mem_cons.1 hy with rfl | hy
            · omega
            · exact ih2 (fun z hz => h1 z (List.mem_cons_of_mem _ hz)) (by omega) y hy
        have := this l (fun y hy => h y (List.mem_cons_of_mem _ hy)) hz x hx
        subst this
        rfl
theorem one_len {n : Int} (h : zobB n = true) : lenB n = true := by simp [zobB] at h; simp [lenB]; omega
theorem caR_parts (zs : List Int) : caR zs = (fullB zs || aloneB zs) := by
  unfold caR fullB aloneB
  by_cases h1 : zs.length ≤ 320
  · rw [decide_eq_true h1]
    simp only [Bool.true_and]
    cases ha : zs.all lenB with
    | true =>
      rw [Bool.true_and, Bool.true_and]
      congr 1
      by_cases hs : zs.sum = 1
      · rw [alone_iff ha hs, decide_eq_true hs]; rfl
      · rw [decide_eq_false hs, Bool.and_false]
    | false =>
      rw [Bool.false_and, Bool.false_and, Bool.false_or]
      cases ho : zs.all zobB with
      | false => rfl
      | true =>
        rw [List.all_eq_true] at ho
        have : zs.all lenB = true := List.all_eq_true.2 (fun x hx => one_len (ho x hx))
        rw [ha] at this; cases this
  · rw [decide_eq_false h1]; rfl

set_option maxHeartbeats 1000000 in
theorem alone_any (A : Option Addr) (l c : Nat) (zs : List Int) (B : Nat) (w : World) (hl : zs.length = l) (hm : l ≤ 9223372036854775807) (hb : Cells w B A (zs.map ic)) :
    Calls Tryz.prog 88 #[.slice A l c] w fun e w' => e = .returned (.bool (aloneB zs)) ∧ w = w' := by
  have HC := Lib.hid hb
  have HL := Lib.hid hl
  have HFD : Hid (aloneB zs = (decide (zs.length ≤ 320) && zs.all zobB && decide (zs.sum = 1))) := rfl
  clear hb hl
  by_cases h320 : 320 < l
  · have hd : decide ((320 : Int) < (l : Int)) = true := by simp; omega
    have HF : Hid (aloneB zs = false) := by show _ = _; rw [HFD.out, HL.out, decide_eq_false (by omega)]; rfl
    clear h320
    go_enter Tryz.func88, Tryz.ntmps88
    go_wp2
    go_ret
    exact ⟨by rw [HF.out]; rfl, rfl⟩
  have hd : decide ((320 : Int) < (l : Int)) = false := by simp; omega
  go_enter Tryz.func88, Tryz.ntmps88
  go_wp2
  go_loopg [3, 11] l (fun gk v i wr => ∃ k : Nat, k + gk = l ∧ i = .int .i64 k ∧ v = .int .i64 (zs.take k).sum ∧ wr = w ∧ ∀ j x, j < k → zs[j]? = some x → zobB x = true)
  case atStart => exact ⟨0, by omega, rfl, rfl, rfl, fun j _ h => absurd h (Nat.not_lt_zero j)⟩
  case round =>
    obtain ⟨k, hk, rfl, rfl, rfl, hall⟩ := hrel
    have HALL := Lib.hid hall
    have hbd := sum_bd (fun x hx => one_len (mem_of_upto hall x hx))
    rw [List.length_take] at hbd
    clear hall
    by_cases h : k < l
    · obtain ⟨x, hx⟩ : ∃ x, zs[k]? = some x := ⟨_, List.getElem?_eq_getElem (by have := HL.out; omega)⟩
      obtain ⟨b, o, rfl, hbB, hc⟩ := HC.out (by rw [List.length_map, HL.out]; omega)
      have c0 : wr.cell? ⟨b, o + k, none⟩ = some (.int .i64 x) := hc k _ (by rw [List.getElem?_map, hx]; rfl)
      have HX := Lib.hid hx
      have HS := Lib.hid (sum_snoc hx)
      have hlk : min k zs.length ≤ 320 := by have := HL.out; omega
      generalize (zs.take k).sum = t at *
      generalize min k zs.length = mk at *
      clear hc hx
      by_cases hx0 : x = 0
      · have HQ : Hid (zobB x = true) := by show _ = _; simp [zobB, hx0]
        have hd2 : (x != 0) = false := by simp [hx0]
        have hd2' : (x == 0) = true := by simp [hx0]
        have hxz := Lib.hid hx0
        have hx1 : x ≤ 1 := by omega
        have hx2 : 0 ≤ x := by omega
        clear hx0
        go_wp2
        go_roundg (gk - 1)
        case measure => omega
        case rel => exact ⟨k + 1, by omega, by go_num, by rw [HS.out], rfl, fun j y hj hy => by
            by_cases e : j = k
            · subst e
              rw [HX.out] at hy
              injection hy with hy
              subst hy
              exact HQ.out
            · exact HALL.out j y (by omega) hy⟩
      · by_cases hx1 : x = 1
        · have HQ : Hid (zobB x = true) := by show _ = _; simp [zobB, hx1]
          have hd2 : (x != 0) = true := by simp [hx1]
          have hd2' : (x == 0) = false := by simp [hx1]
          have hd3 : (x != 1) = false := by simp [hx1]
          have hd3' : (x == 1) = true := by simp [hx1]
          have hxa : x ≤ 1 := by omega
          have hxb : 0 ≤ x := by omega
          clear hx0 hx1
          go_wp2
          go_roundg (gk - 1)
          case measure => omega
          case rel => exact ⟨k + 1, by omega, by go_num, by rw [HS.out], rfl, fun j y hj hy => by
              by_cases e : j = k
              · subst e
                rw [HX.out] at hy
                injection hy with hy
                subst hy
                exact HQ.out
              · exact HALL.out j y (by omega) hy⟩
        · have HF : Hid (aloneB zs = false) := by show _ = _; rw [HFD.out, all_bad HX.out (by simp [zobB, hx0, hx1]), Bool.and_false]; rfl
          have hd2 : (x != 0) = true := by simp [hx0]
          have hd2' : (x == 0) = false := by simp [hx0]
          have hd3 : (x != 1) = true := by simp [hx1]
          have hd3' : (x == 1) = false := by simp [hx1]
          clear hx0 hx1
          go_wp2
          go_ret
          exact ⟨by rw [HF.out]; rfl, rfl⟩
    · obtain rfl : k = l := by omega
      have ht : zs.take k = zs := List.take_of_length_le (by have := HL.out; omega)
      have HA : Hid (zs.all zobB = true) := all_good (fun j x hj hx => HALL.out j x (by have := HL.out; omega) hx)
      rw [ht]
      rw [ht] at hbd
      clear ht
      have HF : Hid (aloneB zs = decide (zs.sum = 1)) := by show _ = _; rw [HFD.out, HA.out, HL.out, decide_eq_true (show k ≤ 320 by omega)]; rfl
      generalize zs.sum = s at *
      by_cases hs : s = 1
      · subst hs
        go_wp2
        go_ret
        exact ⟨by rw [HF.out]; rfl, rfl⟩
      · have hd3 : (s == 1) = false := by simp [hs]
        rw [decide_eq_false hs] at HF
        clear hs
        go_wp2
        go_ret
        exact ⟨by rw [HF.out]; rfl, rfl⟩

set_option maxHeartbeats 1000000 in
theorem caRight_any (A : Option Addr) (l c : Nat) (zs : List Int) (B : Nat) (w : World) (hl : zs.length = l) (hm : l ≤ 9223372036854775807) (hb : Cells w B A (zs.map ic)) :
    Calls Tryz.prog 77 #[.slice A l c] w fun e w' => e = .returned (.bool (caR zs)) ∧ w = w' := by
  have HF := Lib.hid (full_any A l c zs B w hl hm hb)
  have HA := Lib.hid (alone_any A l c zs B w hl hm hb)
  have HP : Hid (caR zs = (fullB zs || aloneB zs)) := caR_parts zs
  generalize fullB zs = f at *
  generalize aloneB zs = a at *
  clear hl hb
  cases f with
  | true =>
    go_enter Tryz.func77, Tryz.ntmps77
    go_wp2_with (first | (go_at_call 87; refine HF.out.mono ?_; rintro e w' ⟨rfl, rfl⟩) | (go_at_call 88; refine HA.out.mono ?_; rintro e w' ⟨rfl, rfl⟩))
    go_ret
    exact ⟨by rw [HP.out]; rfl, rfl⟩
  | false =>
    go_enter Tryz.func77, Tryz.ntmps77
    go_wp2_with (first | (go_at_call 87; refine HF.out.mono ?_; rintro e w' ⟨rfl, rfl⟩) | (go_at_call 88; refine HA.out.mono ?_; rintro e w' ⟨rfl, rfl⟩))
    go_ret
    exact ⟨by rw [HP.out]; rfl, rfl⟩
end Go.Proofs.YtaknladkodibaaaGreat
/- Layer 8: may lengths be a code: the reference's. -/
namespace Go.Proofs.YtaknladkodibaaaGreat
open Go.RowKit

end Go.Proofs.YtaknladkodibaaaGreat
/- Layer 8: the order of the symbols; the reference's Right. -/
namespace Go.Proofs.YtaknladkodibaaaGreat
open Go.RowKit

theorem intElem : Elem Tryz.prog 56 3 (.int .i64 0) 1 8 := Elem.of Tryz.underlying56 (by kernel_rfl) rfl (by omega)
def nc (s : Nat) : Value := ic (s : Int)
/-- The symbols of a length, ahead of a place. -/
def ixs (zs : List Int) (n s : Nat) : List Nat := (List.range s).filter fun t => decide (zs[t]? = some (n : Int))
/-- .. of all lengths up to one. -/
def whole (zs : List Int) : Nat → List Nat
  | 0 => []
  | m + 1 => whole zs m ++ ixs zs (m + 1) zs.length
def ordN (zs : List Int) (n s : Nat) : List Nat := whole zs (n - 1) ++ ixs zs n s
theorem ordN_zero (zs : List Int) (n : Nat) : ordN zs n 0 = whole zs (n - 1) := by simp [ordN, ixs]
theorem ordN_all (zs : List Int) (n : Nat) (h : 1 ≤ n) : ordN zs n zs.length = whole zs n := by
  obtain ⟨m, rfl⟩ : ∃ m, n = m + 1 := ⟨n - 1, by omega⟩
  rfl
theorem ordN_yes {zs : List Int} {n s : Nat} (h : zs[s]? = some (n : Int)) : ordN zs n (s + 1) = ordN zs n s ++ [s] := by
  unfold ordN ixs
  rw [List.range_succ, List.filter_append, List.append_assoc]
  congr 1
  simp [h]
theorem ordN_no {zs : List Int} {n s : Nat} {x : Int} (h : zs[s]? = some x) (hx : x ≠ n) : ordN zs n (s + 1) = ordN zs n s := by
  unfold ordN ixs
  rw [List.range_succ, List.filter_append]
  congr 1
  simp [h, hx]
theorem ixs_len (zs : List Int) (n s : Nat) : (ixs zs n s).length ≤ s := Nat.le_trans (List.length_filter_le _ _) (by simp)
theorem whole_len (zs : List Int) : ∀ m, (whole zs m).length ≤ m * zs.length
  | 0 => by simp [whole]
  | m + 1 => by
    have h1 := whole_len zs m
    have h2 := ixs_len zs (m + 1) zs.length
    rw [whole, List.length_append, Nat.succ_mul]
    omega
theorem ordN_len (zs : List Int) (n s : Nat) (h1 : 1 ≤ n) (h2 : n ≤ 15) (hs : s ≤ zs.length) : (ordN zs n s).length ≤ 15 * zs.length := by
  have h3 := whole_len zs (n - 1)
  have h4 := ixs_len zs n s
  have h5 : (n - 1) * zs.length + zs.length ≤ 15 * zs.length := by
    rw [← Nat.succ_mul]; exact Nat.mul_le_mul_right _ (by omega)
  rw [ordN, List.length_append]
  omega
theorem whole_mem {zs : List Int} : ∀ {m s : Nat}, s ∈ whole zs m → ∃ n : Nat, zs[s]? = some (n : Int) ∧ 1 ≤ n ∧ n ≤ m
  | 0, _, h => by simp [whole] at h
  | m + 1, s, h => by
    rw [whole, List.mem_append] at h
    rcases h with h | h
    · obtain ⟨n, h1, h2, h3⟩ := whole_mem h
      exact ⟨n, h1, h2, by omega⟩
    · simp only [ixs, List.mem_filter, decide_eq_true_eq] at h
      exact ⟨m + 1, h.2, by omega, Nat.le_refl _⟩
theorem whole_has {zs : List Int} {s n : Nat} (h : zs[s]? = some (n : Int)) (h1 : 1 ≤ n) : ∀ {m : Nat}, n ≤ m → s ∈ whole zs m
  | 0, h2 => by omega
  | m + 1, h2 => by
    rw [whole, List.mem_append]
    by_cases e : n = m + 1
    · right
      subst e
      simp only [ixs, List.mem_filter, decide_eq_true_eq, List.mem_range]
      exact ⟨(List.getElem?_eq_some_iff.1 h).1, h⟩
    · exact .inl (whole_has h h1 (by omega))
def ltx (zs : List Int) (s t : Nat) : Prop := zs.getD s 0 < zs.getD t 0 ∨ (zs.getD s 0 = zs.getD t 0 ∧ s < t)
theorem getD_of {zs : List Int} {s : Nat} {n : Int} (h : zs[s]? = some n) : zs.getD s 0 = n := by simp [List.getD, h]
theorem whole_sorted (zs : List Int) : ∀ m, (whole zs m).Pairwise (ltx zs)
  | 0 => by simp [whole]
  | m + 1 => by
    rw [whole, List.pairwise_append]
    refine ⟨whole_sorted zs m, ?_, fun a ha b hb => ?_⟩
    · have : (ixs zs (m + 1) zs.length).Pairwise (· < ·) := List.Pairwise.filter _ List.pairwise_lt_range
      refine this.imp_of_mem fun {a b} ha hb hab => .inr ⟨?_, hab⟩
      simp only [ixs, List.mem_filter, decide_eq_true_eq] at ha hb
      rw [getD_of ha.2, getD_of hb.2]
    · obtain ⟨n, h1, h2, h3⟩ := whole_mem ha
      simp only [ixs, List.mem_filter, decide_eq_true_eq] at hb
      left
      rw [getD_of h1, getD_of hb.2]
      omega
/-- The symbols in their order. -/
def ordL (zs : List Int) : List Nat := whole zs 15
set_option maxHeartbeats 1000000 in
theorem order_any (A : Option Addr) (l c : Nat) (zs : List Int) (B : Nat) (w : World) (hl : zs.length = l) (hm : l ≤ 1000) (hb : Cells w B A (zs.map ic)) (hB : B ≤ w.heap.size) :
    Calls Tryz.prog 58 #[.slice A l c] w fun e w' => ∃ A' c', e = .returned (.slice A' (ordL zs).length c') ∧
      w'.ownsRow w.heap.size 3 1 (.slice A' (ordL zs).length c') (ordL zs).length ((ordL zs).map nc) ∧ Below w.heap.size w w' := by
  have HC := Lib.hid hb
  have HL := Lib.hid hl
  have HB := Lib.hid hB
  clear hb hl hB
  go_enter Tryz.func58, Tryz.ntmps58
  go_wp2
  go_loopg [3, 4] 15 (fun gk v i wr => ∃ (n : Nat) (Ak : Option Addr) (ck : Nat), n + gk = 16 ∧ 1 ≤ n ∧ i = .int .i64 n ∧ v = .slice Ak (whole zs (n - 1)).length ck ∧
    wr.ownsRow w.heap.size 3 1 v (whole zs (n - 1)).length ((whole zs (n - 1)).map nc) ∧ Below w.heap.size w wr)
  case atStart => exact ⟨1, none, 0, by omega, Nat.le_refl _, rfl, rfl, World.ownsRow_nil _ _ _ _, Below.refl _ _⟩
  case round =>
    obtain ⟨n, Ak, ck, hn, hn1, rfl, rfl, ho, hb⟩ := hrel
    by_cases h : n ≤ 15
    · have hd : decide ((n : Int) ≤ 15) = true := by simp; omega
      obtain ⟨G, hG⟩ : ∃ G, gk = G := ⟨_, rfl⟩
      rw [hG] at hn
      have HO := Lib.hid ho
      have HBE := Lib.hid hb
      clear ho hb
      go_wp2
      go_loopg [3, 13] l (fun gk v i w2 => ∃ (k : Nat) (A2 : Option Addr) (c2 : Nat), k + gk = l ∧ i = .int .i64 k ∧ v = .slice A2 (ordN zs n k).length c2 ∧
        w2.ownsRow w.heap.size 3 1 v (ordN zs n k).length ((ordN zs n k).map nc) ∧ Below w.heap.size w w2)
      case atStart => exact ⟨0, Ak, ck, by omega, rfl, by rw [ordN_zero], by rw [ordN_zero]; exact HO.out, HBE.out⟩
      case round =>
        obtain ⟨k, A2, c2, hk, rfl, rfl, ho2, hb2⟩ := hrel
        have HO2 := Lib.hid ho2
        have HB2 := Lib.hid hb2
        clear ho2 hb2 HO HBE
        by_cases hkl : k < l
        · obtain ⟨x, hx⟩ : ∃ x, zs[k]? = some x := ⟨_, List.getElem?_eq_getElem (by have := HL.out; omega)⟩
          obtain ⟨b, o, rfl, hbB, hc⟩ := (HC.out.below HB2.out HB.out) (by rw [List.length_map, HL.out]; omega)
          have c0 : wr.cell? ⟨b, o + k, none⟩ = some (.int .i64 x) := hc k _ (by rw [List.getElem?_map, hx]; rfl)
          have HX := Lib.hid hx
          clear hc hx
          have hlen := ordN_len zs n k hn1 h (by have := HL.out; omega)
          rw [HL.out] at hlen
          by_cases he : x = n
          · have hde : (x == (n : Int)) = true := by simp [he]
            subst he
            have HS := Lib.hid (ordN_yes HX.out)
            generalize ordN zs n k = L at *
            have hbs := HB2.out.size
            go_wp2_with (at_builtin; refine wpList_app1 _ intElem rfl (.tmp 21) (.tmp 23) rfl w.heap.size (.slice A2 L.length c2) L.length _ rfl HO2.out _ rfl rfl (by simp [Value.oneCell']) (by unfold maxLen; omega) (by omega) hbs ?_; intro A3 c3 w3 hA; have HA := Lib.hid hA; clear hA)
            go_roundg (gk - 1)
            case measure => omega
            case rel =>
              refine ⟨k + 1, A3, c3, by omega, by go_num, by rw [HS.out, List.length_append]; rfl, ?_, HA.out.below HB2.out hbs (own_base HO2.out)⟩
              have := HA.out.own
              rw [HS.out, List.length_append, List.map_append]
              exact this
          · have hde : (x == (n : Int)) = false := by simp [he]
            have HS := Lib.hid (ordN_no HX.out he)
            clear he
            go_wp2
            go_roundg (gk - 1)
            case measure => omega
            case rel => exact ⟨k + 1, A2, c2, by omega, by go_num, by rw [HS.out], by rw [HS.out]; exact HO2.out, HB2.out⟩
        · obtain rfl : k = l := by omega
          have HW : Hid (ordN zs n k = whole zs n) := by show _ = _; rw [← HL.out]; exact ordN_all zs n hn1
          rw [HW.out] at HO2 ⊢
          go_wp2
          go_roundg (G - 1)
          case measure => omega
          case rel => exact ⟨n + 1, A2, c2, by omega, by omega, by go_num, rfl, HO2.out, HB2.out⟩
    · obtain rfl : n = 16 := by omega
      go_wp2
      go_ret
      exact ⟨Ak, ck, rfl, ho, hb⟩

theorem caR_empty : caR [] = false := by decide
end Go.Proofs.YtaknladkodibaaaGreat
/- Layer 8: all codes: the program's and the reference's. -/
namespace Go.Proofs.YtaknladkodibaaaGreat
open Go.RowKit

def vstep (zs : List Int) (st : Nat × Nat × List Int) (s : Nat) : Nat × Nat × List Int :=
  (st.1 * 2 ^ ((zs.getD s 0).toNat - st.2.1) + 1, (zs.getD s 0).toNat, st.2.2.set s ((st.1 * 2 ^ ((zs.getD s 0).toNat - st.2.1) : Nat) : Int))
/-- Behind the symbols of a list: the next code, the last length, the codes. -/
def vst (zs : List Int) (os : List Nat) : Nat × Nat × List Int := os.foldl (vstep zs) (0, 0, List.replicate zs.length 0)
def caV (zs : List Int) : List Int := (vst zs (ordL zs)).2.2
theorem vst_snoc (zs : List Int) (os : List Nat) (s : Nat) : vst zs (os ++ [s]) = vstep zs (vst zs os) s := by simp [vst]
def osum (zs : List Int) (os : List Nat) : Nat := (os.map fun s => wt (zs.getD s 0)).sum
theorem osum_snoc (zs : List Int) (os : List Nat) (s : Nat) : osum zs (os ++ [s]) = osum zs os + wt (zs.getD s 0) := by simp [osum]
theorem osum_le (zs : List Int) : ∀ os : List Nat, osum zs os ≤ os.length * 32768
  | [] => Nat.zero_le _
  | s :: os => by
    have := osum_le zs os
    have := wt_le (zs.getD s 0)
    unfold osum at *
    rw [List.map_cons, List.sum_cons, List.length_cons, Nat.succ_mul]
    omega
structure VI (zs : List Int) (os : List Nat) (st : Nat × Nat × List Int) : Prop where
  sum : st.1 * 2 ^ (15 - st.2.1) = osum zs os
  le : st.2.1 ≤ 15
  z : st.2.1 = 0 → st.1 = 0
  len : st.2.2.length = zs.length
theorem VI.start (zs : List Int) : VI zs [] (vst zs []) := ⟨by simp [vst, osum], Nat.zero_le _, fun _ => rfl, by simp [vst]⟩
theorem VI.val {zs : List Int} {os : List Nat} {x a n : Nat} {vs : List Int} (h : VI zs os (x, a, vs)) (h15 : n ≤ 15) (ha : a ≤ n) : x * 2 ^ (n - a) * 2 ^ (15 - n) = osum zs os := by
  rw [← h.sum, Nat.mul_assoc, ← Nat.pow_add, show n - a + (15 - n) = 15 - a by omega]
theorem VI.snoc {zs : List Int} {os : List Nat} {st : Nat × Nat × List Int} {s n : Nat} (h : VI zs os st) (hs : zs[s]? = some (n : Int)) (h1 : 1 ≤ n) (h15 : n ≤ 15) (ha : st.2.1 ≤ n) : VI zs (os ++ [s]) (vstep zs st s) := by
  obtain ⟨x, a, vs⟩ := st
  have hg := getD_of hs
  have hwt : wt (n : Int) = 2 ^ (15 - n) := by unfold wt; rw [if_pos (by omega), Int.toNat_natCast]
  refine ⟨?_, ?_, ?_, ?_⟩
  · rw [osum_snoc, hg, hwt, ← h.val h15 ha]
    simp only [vstep, hg, Int.toNat_natCast]
    rw [Nat.add_mul, Nat.one_mul]
  · simp only [vstep, hg, Int.toNat_natCast]; exact h15
  · simp only [vstep, hg, Int.toNat_natCast]; omega
  · simp only [vstep, List.length_set]; exact h.len
theorem VI.small {zs : List Int} {os : List Nat} {x a n : Nat} {vs : List Int} (h : VI zs os (x, a, vs)) (h15 : n ≤ 15) (ha : a ≤ n) : x * 2 ^ (n - a) ≤ os.length * 32768 := by
  have h1 := h.val h15 ha
  have h2 := osum_le zs os
  have h3 : x * 2 ^ (n - a) * 1 ≤ x * 2 ^ (n - a) * 2 ^ (15 - n) := Nat.mul_le_mul_left _ (Nat.one_le_two_pow)
  omega
theorem VI.small0 {zs : List Int} {os : List Nat} {x a : Nat} {vs : List Int} (h : VI zs os (x, a, vs)) : x ≤ os.length * 32768 := by
  have h1 := h.small h.le (Nat.le_refl a)
  rwa [Nat.sub_self, Nat.pow_zero, Nat.mul_one] at h1
theorem mem_get {α : Type} {l : List α} {k : Nat} {x : α} (h : l[k]? = some x) : x ∈ l := List.mem_of_getElem? h
theorem vi_take (zs : List Int) : ∀ k, k ≤ (ordL zs).length → VI zs ((ordL zs).take k) (vst zs ((ordL zs).take k)) ∧ (∀ s n : Nat, (ordL zs)[k]? = some s → zs[s]? = some (n : Int) → (vst zs ((ordL zs).take k)).2.1 ≤ n)
  | 0, _ => ⟨VI.start zs, fun s n _ _ => Nat.zero_le _⟩
  | k + 1, hk => by
    obtain ⟨h1, h2⟩ := vi_take zs k (by omega)
    obtain ⟨s, hs⟩ : ∃ s, (ordL zs)[k]? = some s := ⟨_, List.getElem?_eq_getElem (by omega)⟩
    obtain ⟨n, hn, hn1, hn15⟩ := whole_mem (mem_get hs)
    rw [take_snoc' hs, vst_snoc]
    refine ⟨h1.snoc hn hn1 hn15 (h2 s n hs hn), fun t m ht hm => ?_⟩
    have hp := List.pairwise_iff_getElem.1 (show (ordL zs).Pairwise (ltx zs) from whole_sorted zs 15) k (k + 1) (List.getElem?_eq_some_iff.1 hs).1 (List.getElem?_eq_some_iff.1 ht).1 (by omega)
    have e1 := (List.getElem?_eq_some_iff.1 hs).2
    have e2 := (List.getElem?_eq_some_iff.1 ht).2
    rw [e1, e2] at hp
    unfold ltx at hp
    rw [getD_of hn, getD_of hm] at hp
    simp only [vstep, getD_of hn, Int.toNat_natCast]
    omega

def IntBlock (w : World) (g : Nat) (vs : List Int) : Prop := w.heap[g]? = some (.cells (vs.map ic).toArray 3 (0, 0))
theorem ib_cell {w : World} {g : Nat} {vs : List Int} {i : Nat} {x : Int} (h : IntBlock w g vs) (hx : vs[i]? = some x) : w.cell? ⟨g, i, none⟩ = some (.int .i64 x) := by
  rw [cell_of_row w g i _ _ _ h]
  simp [hx, ic]
theorem ib_free {w : World} {g : Nat} {vs : List Int} (h : IntBlock w g vs) (i : Nat) : w.frozen? ⟨g, i, none⟩ = false := frozen_of_row w g i _ _ h
theorem ib_set {w : World} {g : Nat} {vs : List Int} (h : IntBlock w g vs) (i : Nat) (y : Int) : IntBlock (w.setCell ⟨g, i, none⟩ (.int .i64 y)) g (vs.set i y) := by
  unfold IntBlock
  rw [heap_setCell_same w g i _ _ _ h]
  rw [List.setIfInBounds_toArray, List.map_set]
  rfl
theorem ib_cells {w : World} {g B : Nat} {vs : List Int} (h : IntBlock w g vs) (hB : g < B) : Cells w B (some ⟨g, 0, none⟩) (vs.map ic) := fun _ =>
  ⟨g, 0, rfl, hB, fun j u hu => by
    rw [Nat.zero_add, cell_of_row w g j _ _ _ h]
    simpa using hu⟩
theorem ib_lt {w : World} {g : Nat} {vs : List Int} (h : IntBlock w g vs) : g < w.heap.size := (Array.getElem?_eq_some_iff.1 h).1
theorem intInfo : (Tryz.prog.info? 3).map (fun i => (i.zero, i.size, i.bytes)) = some (some (.int .i64 0), 1, 8) := by kernel_rfl
theorem make_ints (n : Nat) (hn : n ≤ 1000000) (W : World) :
    (Instr.makeSlice 56 (.int .i64 (n : Int)) (.int .i64 (n : Int))).run Tryz.prog W = .ok (.slice (some ⟨W.heap.size, 0, none⟩) n n) (W.alloc (.cells (madeCells #[.int .i64 0] n) 3)) := by
  obtain ⟨i0, hi, hz0, hz1, hz2⟩ := info_parts intInfo
  have h := run_make (P := Tryz.prog) W 56 3 i0 (.int .i64 0) Tryz.underlying56 hi hz0 .i64 .i64 n n (by omega) (Int.le_refl _) (by rw [hz2]; omega) (by omega)
  simp only [Int.toNat_natCast, hz1, Nat.mul_one] at h
  exact h
theorem made_ints (w : World) (n : Nat) : IntBlock (w.alloc (.cells (madeCells #[Value.int .i64 0] n) 3)) w.heap.size (List.replicate n 0) := by
  have e : madeCells #[Value.int .i64 0] n = ((List.replicate n (0 : Int)).map ic).toArray := by
    apply Array.toList_inj.1
    rw [toList_madeCells_one]
    simp [ic]
  unfold IntBlock
  rw [e]
  exact heap_alloc_new w _

set_option maxHeartbeats 1000000 in
theorem values_any (A : Option Addr) (l c : Nat) (zs : List Int) (B : Nat) (w : World) (hl : zs.length = l) (hm : l ≤ 1000) (hb : Cells w B A (zs.map ic)) (hB : B ≤ w.heap.size) (hr : caR zs = true) :
    Calls Tryz.prog 55 #[.slice A l c] w fun e w' => e = .returned (.tuple #[.slice (some ⟨w.heap.size, 0, none⟩) l l, .int .i64 0]) ∧ IntBlock w' w.heap.size (caV zs) ∧ Below w.heap.size w w' := by
  have HR := Lib.hid (caRight_any A l c zs B w hl (by omega) hb)
  rw [hr] at HR
  have HC := Lib.hid hb
  have HL := Lib.hid hl
  have HB := Lib.hid hB
  have mk0 := make_ints l (by omega)
  have HLEN : Hid ((ordL zs).length ≤ 15000) := by
    have := whole_len zs 15
    show (whole zs 15).length ≤ _
    omega
  clear hr hb hl hB
  obtain ⟨W1, hW1⟩ : ∃ W1, w.alloc (.cells (madeCells #[.int .i64 0] l) 3) = W1 := ⟨_, rfl⟩
  have hz1 : W1.heap.size = w.heap.size + 1 := by rw [← hW1]; simp
  have HBL := Lib.hid (show IntBlock W1 w.heap.size (List.replicate l 0) by rw [← hW1]; exact made_ints w l)
  have HB1 := Lib.hid (show Below w.heap.size w W1 by rw [← hW1]; exact (Below.refl _ w).alloc (Nat.le_refl _) _)
  have HORD := Lib.hid (order_any A l c zs B W1 HL.out hm (HC.out.below HB1.out HB.out) (by have := HB.out; omega))
  go_enter Tryz.func55, Tryz.ntmps55
  go_wp2_with (first | (go_at_call 77; refine HR.out.mono ?_; rintro e w' ⟨rfl, rfl⟩) | (go_at_call 58; refine HORD.out.mono ?_; rintro e w2 ⟨A2, c2, rfl, ho, hb2⟩; have HO := Lib.hid ho; have HB2 := Lib.hid hb2; clear ho hb2))
  go_loopg [5, 6, 18] (ordL zs).length (fun gk x a i wr => ∃ (k : Nat) (X a0 : Nat) (vs : List Int), k + gk = (ordL zs).length ∧ i = .int .i64 k ∧ vst zs ((ordL zs).take k) = (X, a0, vs) ∧ x = .int .i64 ((X : Int) - 1) ∧ a = .int .i64 a0 ∧
    IntBlock wr w.heap.size vs ∧ Mod (oneB w.heap.size) w2 wr)
  case atStart =>
    refine ⟨0, 0, 0, List.replicate zs.length 0, by omega, rfl, rfl, rfl, rfl, ?_, Mod.refl _ _⟩
    rw [HL.out]
    have := HB2.out.block w.heap.size (by omega)
    unfold IntBlock
    rw [this]
    exact HBL.out
  case round =>
    obtain ⟨k, X, a0, vs, hk, rfl, hst, rfl, rfl, hib, hmod⟩ := hrel
    have hol := HLEN.out
    obtain ⟨hvi, hle⟩ := vi_take zs k (by omega)
    rw [hst] at hvi hle
    by_cases h : k < (ordL zs).length
    · obtain ⟨s, hs⟩ : ∃ s, (ordL zs)[k]? = some s := ⟨_, List.getElem?_eq_getElem h⟩
      obtain ⟨n, hn, hn1, hn15⟩ := whole_mem (mem_get hs)
      have ha : a0 ≤ n := hle s n hs hn
      have hv1 := hvi.small hn15 ha
      have hv0 := hvi.small0
      have hsl := (List.getElem?_eq_some_iff.1 hn).1
      rw [List.length_take] at hv1 hv0
      have hV5 : X * 2 ^ (n - a0) ≤ 500000000 := by have := HLEN.out; omega
      have hX5 : X ≤ 500000000 := by have := HLEN.out; omega
      clear hv1 hv0
      have HVI := Lib.hid hvi
      have HST : Hid (vst zs ((ordL zs).take (k + 1)) = (X * 2 ^ (n - a0) + 1, n, vs.set s ((X * 2 ^ (n - a0) : Nat) : Int))) := by
        show _ = _
        rw [take_snoc' hs, vst_snoc, hst]
        simp only [vstep, getD_of hn, Int.toNat_natCast]
      have HOW := Lib.hid (own_keep HO.out hmod (fun q hq e => by have := own_base HO.out q hq; have := e; unfold oneB at this; omega))
      obtain ⟨b2, o2, rfl, hb2, hc2⟩ := (Cells.of_own HOW.out) (by rw [List.length_map]; omega)
      have c1 : wr.cell? ⟨b2, o2 + k, none⟩ = some (.int .i64 (s : Int)) := hc2 k _ (by rw [List.getElem?_map, hs]; rfl)
      have HCW := Lib.hid (((HC.out.more HB.out).below (HB1.out) (Nat.le_refl _)).below (HB2.out.mono (by omega)) (Nat.le_refl _) |>.mod hmod (by have := HB2.out.size; omega) (fun q hq => by unfold oneB at hq; omega))
      obtain ⟨b, o, rfl, hbB, hc⟩ := HCW.out (by rw [List.length_map]; omega)
      have c0 : wr.cell? ⟨b, o + s, none⟩ = some (.int .i64 (n : Int)) := hc s _ (by rw [List.getElem?_map, hn]; rfl)
      have hf := ib_free hib s
      obtain ⟨y, hy⟩ : ∃ y, vs[s]? = some y := ⟨_, List.getElem?_eq_getElem (by rw [hvi.len]; exact hsl)⟩
      have cy := ib_cell hib hy
      have HIB := Lib.hid hib
      have HMOD := Lib.hid hmod
      have hsl' : s < l := by have := HL.out; omega
      clear hc hc2 hib hmod hs hn hst hvi hle hy
      obtain ⟨Q, hQ⟩ : ∃ Q, 2 ^ (n - a0) = Q := ⟨_, rfl⟩
      have hq : (2 : Int) ^ (n - a0) = (Q : Int) := by
        rw [← hQ, Int.natCast_pow]
        rfl
      have hve : (X : Int) * (Q : Int) = ((X * 2 ^ (n - a0) : Nat) : Int) := by rw [hQ, Int.natCast_mul]
      clear hQ
      generalize X * 2 ^ (n - a0) = V at *
      go_wp2
      go_roundg (gk - 1)
      case measure => omega
      case rel => exact ⟨k + 1, V + 1, n, vs.set s (V : Int), by omega, by go_num, HST.out, by go_num, rfl, ib_set HIB.out s _, HMOD.out.set _ _ (.inl rfl)⟩
    · obtain rfl : k = (ordL zs).length := by omega
      have hcv : vs = caV zs := by
        have := hst
        rw [List.take_length] at this
        unfold caV
        rw [this]
      subst hcv
      go_wp2
      go_ret2
      exact ⟨rfl, hib, hmod.below ((HB1.out.trans (HB2.out.mono (by omega)))) (by have := HB2.out.size; omega) (fun q hq => by unfold oneB at hq; omega)⟩
end Go.Proofs.YtaknladkodibaaaGreat
