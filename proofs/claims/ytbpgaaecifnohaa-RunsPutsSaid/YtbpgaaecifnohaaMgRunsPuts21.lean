/- Layer 8: CanonValues. -/
import Derived.Test.YtbpgaaecifnohaaMgRunsPuts20
namespace Go.Proofs.Ytbpgaaecifnohaa
open Go.RowKit

def posN (zs : List Int) (k : Nat) : Nat := ((List.range k).filter fun t => decide (0 < zs.getD t 0)).length
theorem posN_yes {zs : List Int} {k : Nat} {x : Int} (h : zs[k]? = some x) (hx : 0 < x) : posN zs (k + 1) = posN zs k + 1 := by
  unfold posN
  rw [List.range_succ, List.filter_append, List.length_append]
  congr 1
  show (match decide (0 < zs.getD k 0) with | true => [k] | false => []).length = _
  rw [decide_eq_true (by rw [getD_of h]; exact hx)]
  rfl
theorem posN_no {zs : List Int} {k : Nat} {x : Int} (h : zs[k]? = some x) (hx : ¬ 0 < x) : posN zs (k + 1) = posN zs k := by
  unfold posN
  rw [List.range_succ, List.filter_append, List.length_append]
  show _ + (match decide (0 < zs.getD k 0) with | true => [k] | false => []).length = _
  rw [decide_eq_false (by rw [getD_of h]; exact hx)]
  rfl
theorem posN_le (zs : List Int) (k : Nat) : posN zs k ≤ k := Nat.le_trans (List.length_filter_le _ _) (by simp)
theorem filt_add {α : Type} (p q r : α → Bool) : ∀ L : List α, (∀ t ∈ L, r t = (p t || q t) ∧ (p t && q t) = false) → (L.filter r).length = (L.filter p).length + (L.filter q).length
  | [], _ => rfl
  | t :: L, h => by
    have ih := filt_add p q r L (fun x hx => h x (List.mem_cons_of_mem _ hx))
    obtain ⟨h1, h2⟩ := h t (by simp)
    simp only [List.filter_cons]
    cases hp : p t <;> cases hq : q t <;> rw [hp, hq] at h1 h2 <;> simp_all <;> omega
theorem whole_count (zs : List Int) : ∀ m : Nat, (whole zs m).length = ((List.range zs.length).filter fun t => decide (0 < zs.getD t 0 ∧ zs.getD t 0 ≤ (m : Int))).length
  | 0 => by
    rw [List.filter_eq_nil_iff.2]
    · rfl
    · intro t _
      rw [decide_eq_true_eq]
      omega
  | m + 1 => by
    rw [whole, List.length_append, whole_count zs m]
    unfold ixs
    symm
    refine filt_add _ _ _ _ fun t ht => ?_
    rw [List.mem_range] at ht
    obtain ⟨x, hx⟩ : ∃ x, zs[t]? = some x := ⟨_, List.getElem?_eq_getElem ht⟩
    rw [getD_of hx, hx]
    constructor
    · rw [Bool.eq_iff_iff]; simp; omega
    · rw [Bool.eq_false_iff]; simp; omega
theorem posN_all {zs : List Int} (h : ∀ x ∈ zs, lenB x = true) : posN zs zs.length = (ordL zs).length := by
  unfold posN ordL
  rw [whole_count]
  congr 1
  apply List.filter_congr
  intro t ht
  rw [List.mem_range] at ht
  obtain ⟨x, hx⟩ : ∃ x, zs[t]? = some x := ⟨_, List.getElem?_eq_getElem ht⟩
  have := lenB_yes (h x (List.mem_of_getElem? hx))
  rw [getD_of hx, Bool.eq_iff_iff]
  simp
  omega
theorem caR_len {zs : List Int} (h : caR zs = true) : zs.length ≤ 320 ∧ ∀ x ∈ zs, lenB x = true := by
  unfold caR at h
  rw [Bool.and_eq_true, Bool.and_eq_true, decide_eq_true_eq, List.all_eq_true] at h
  exact h.1
theorem LC.below {w w' : World} {g : Nat} {zs : List Int} (h : LC w g zs) (hb : Below w.heap.size w w') : LC w' g zs := by
  obtain ⟨A1, A2, A3, c1, c2, c3, m, hcb, hmx, h1, h2, h3⟩ := h
  have hg := cb_lt hcb
  exact ⟨A1, A2, A3, c1, c2, c3, m, (by unfold CB; rw [hb.block g hg]; exact hcb), hmx, h1.below (hb.mono (Nat.le_of_lt hg)) (Nat.le_refl _), h2.below (hb.mono (Nat.le_of_lt hg)) (Nat.le_refl _), h3.below (hb.mono (Nat.le_of_lt hg)) (Nat.le_refl _)⟩
theorem LC.drewN {w : World} {g : Nat} {zs : List Int} (h : LC w g zs) (n : Nat) : LC (w.drewN n) g zs := h
theorem Below.drewN {B : Nat} {a w : World} (h : Below B a w) (n : Nat) : Below B a (w.drewN n) := ⟨h.os, h.tape, h.output, h.size, h.block⟩
/-- A symbol's length: none for one that there isn't. -/
def lenAt (zs : List Int) (s : Int) : Int := if 0 ≤ s then zs.getD s.toNat 0 else 0

set_option maxHeartbeats 400000 in
theorem len_any (g : Nat) (zs : List Int) (s : Int) (w : World) (h : LC w g zs) (hm : zs.length ≤ 1000) :
    Calls Try.prog 59 #[.pointer (some ⟨g, 0, none⟩), .int .i64 s] w fun e w' => e = .returned (.int .i64 (lenAt zs s)) ∧ w = w' := by
  obtain ⟨A1, A2, A3, c1, c2, c3, m, hcb, hmx, hc, hr⟩ := h
  obtain ⟨p0, p1, p2, p3⟩ := cb_pre hcb
  clear hcb hr hmx p1 p2 p3
  by_cases h0 : 0 ≤ s
  · by_cases hl : s < zs.length
    · obtain ⟨k, rfl⟩ := Int.eq_ofNat_of_zero_le h0
      obtain ⟨x, hx⟩ : ∃ x, zs[k]? = some x := ⟨_, List.getElem?_eq_getElem (by omega)⟩
      obtain ⟨b, o, rfl, hb, hc2⟩ := hc (by rw [List.length_map]; omega)
      have c0 : w.cell? ⟨b, o + k, none⟩ = some (.int .i64 x) := hc2 k _ (by rw [List.getElem?_map, hx]; rfl)
      have HF : Hid (lenAt zs (k : Int) = x) := by show _ = _; rw [lenAt, if_pos (by omega), Int.toNat_natCast, getD_of hx]
      have hd : decide ((k : Int) < 0) = false := by simp
      have hd2 : decide ((zs.length : Int) ≤ (k : Int)) = false := by simp; omega
      clear hc hc2 hx h0
      go_enter Try.func59, Try.ntmps59
      go_wp2
      go_ret
      exact ⟨by rw [HF.out]; rfl, rfl⟩
    · have HF : Hid (lenAt zs s = 0) := by
        show _ = _
        rw [lenAt, if_pos h0, List.getD, List.getElem?_eq_none (by omega)]; rfl
      have hd2 : decide ((zs.length : Int) ≤ s) = true := by simp; omega
      have hd : decide (s < 0) = false := by simp; omega
      clear hl hc
      go_enter Try.func59, Try.ntmps59
      go_wp2
      go_ret
      exact ⟨by rw [HF.out]; rfl, rfl⟩
  · have HF : Hid (lenAt zs s = 0) := by
      show _ = _
      rw [lenAt, if_neg h0]
    have hd : decide (s < 0) = true := by simp; omega
    clear h0 hc
    go_enter Try.func59, Try.ntmps59
    go_wp2
    go_ret
    exact ⟨by rw [HF.out]; rfl, rfl⟩
end Go.Proofs.Ytbpgaaecifnohaa
/- Layer 8: CanonValues, the law. -/
namespace Go.Proofs.Ytbpgaaecifnohaa
open Go.RowKit

def wantK (zs : List Int) (s : Int) (k : Nat) : Int := if 0 ≤ s ∧ s < (k : Int) then zs.getD s.toNat 0 else 0
theorem wantK_all {zs : List Int} (s : Int) : wantK zs s zs.length = lenAt zs s := by
  unfold wantK lenAt
  by_cases h0 : 0 ≤ s
  · rw [if_pos h0]
    by_cases h1 : s < (zs.length : Int)
    · rw [if_pos ⟨h0, h1⟩]
    · rw [if_neg (by omega), List.getD, List.getElem?_eq_none (by omega)]; rfl
  · rw [if_neg h0, if_neg (by omega)]
end Go.Proofs.Ytbpgaaecifnohaa
