/- Layer 34: rows in memory; a row is spread. -/
import Derived.Test.YtnobeipabfdkjaaQkTurn
import Derived.Test.YtnobeipabfdkjaaCells
import Derived.RegionTactic
import Derived.Deep.LoopGhost
import Derived.BigQuiet
namespace Go.Proofs.Ytnobeipabfdkjaa
open Go.RowKit

def rowC (r : R3) : List Value := [.int .i64 (r.1 : Int), .int .i64 (r.2.1 : Int), .bool r.2.2]
/-- Rows in a block. -/
def RB (w : World) (g : Nat) (rows : List R3) : Prop := w.heap[g]? = some (.cells ((rows.map rowC).flatten).toArray 35 (0, 0))
theorem flat_set : ∀ (rows : List R3) (x : Nat) (r : R3), ((((rows.map rowC).flatten.set (x * 3) (.int .i64 (r.1 : Int))).set (x * 3 + 1) (.int .i64 (r.2.1 : Int))).set (x * 3 + 2) (.bool r.2.2)) = ((rows.set x r).map rowC).flatten
  | [], x, r => by simp
  | q :: l, 0, r => by simp [rowC]
  | q :: l, x + 1, r => by
    have ih := flat_set l x r
    rw [List.set_cons_succ, List.map_cons, List.map_cons, List.flatten_cons, List.flatten_cons, ← ih, show (x + 1) * 3 = x * 3 + 3 by omega]
    rfl
theorem flat_get : ∀ (rows : List R3) (x : Nat) (r : R3), rows[x]? = some r → ((rows.map rowC).flatten)[x * 3]? = some (.int .i64 (r.1 : Int)) ∧ ((rows.map rowC).flatten)[x * 3 + 1]? = some (.int .i64 (r.2.1 : Int)) ∧ ((rows.map rowC).flatten)[x * 3 + 2]? = some (.bool r.2.2)
  | [], x, r, h => by simp at h
  | q :: l, 0, r, h => by
    obtain rfl : q = r := by simpa using h
    exact ⟨rfl, rfl, rfl⟩
  | q :: l, x + 1, r, h => by
    have ih := flat_get l x r (by simpa using h)
    rw [List.map_cons, List.flatten_cons, show (x + 1) * 3 = x * 3 + 3 by omega]
    exact ih
theorem rb_cells {w : World} {g : Nat} {rows : List R3} {x : Nat} {r : R3} (h : RB w g rows) (hx : rows[x]? = some r) :
    w.cell? ⟨g, x * 3, none⟩ = some (.int .i64 (r.1 : Int)) ∧ w.cell? ⟨g, x * 3 + 1, none⟩ = some (.int .i64 (r.2.1 : Int)) ∧ w.cell? ⟨g, x * 3 + 2, none⟩ = some (.bool r.2.2) := by
  obtain ⟨h1, h2, h3⟩ := flat_get rows x r hx
  refine ⟨?_, ?_, ?_⟩ <;> rw [cell_of_row w g _ _ _ _ h] <;> simpa using by assumption
theorem rb_free {w : World} {g : Nat} {rows : List R3} (h : RB w g rows) (i : Nat) : w.frozen? ⟨g, i, none⟩ = false := frozen_of_row w g i _ _ h
theorem rb_lt {w : World} {g : Nat} {rows : List R3} (h : RB w g rows) : g < w.heap.size := (Array.getElem?_eq_some_iff.1 h).1
theorem rb_set {w : World} {g : Nat} {rows : List R3} (h : RB w g rows) (x : Nat) (r : R3) :
    RB (((w.setCell ⟨g, x * 3, none⟩ (.int .i64 (r.1 : Int))).setCell ⟨g, x * 3 + 1, none⟩ (.int .i64 (r.2.1 : Int))).setCell ⟨g, x * 3 + 2, none⟩ (.bool r.2.2)) g (rows.set x r) := by
  have h1 : (w.setCell ⟨g, x * 3, none⟩ (.int .i64 (r.1 : Int))).heap[g]? = _ := heap_setCell_same w g (x * 3) _ _ _ h
  have h2 : ((w.setCell ⟨g, x * 3, none⟩ (.int .i64 (r.1 : Int))).setCell ⟨g, x * 3 + 1, none⟩ (.int .i64 (r.2.1 : Int))).heap[g]? = _ := heap_setCell_same _ g (x * 3 + 1) _ _ _ h1
  have h3 : (((w.setCell ⟨g, x * 3, none⟩ (.int .i64 (r.1 : Int))).setCell ⟨g, x * 3 + 1, none⟩ (.int .i64 (r.2.1 : Int))).setCell ⟨g, x * 3 + 2, none⟩ (.bool r.2.2)).heap[g]? = _ := heap_setCell_same _ g (x * 3 + 2) _ _ _ h2
  unfold RB
  rw [h3, ← flat_set]
  simp [List.setIfInBounds_toArray]
/-- Spread, up to a place. -/
def spreadK (rows : List R3) (t k : Nat) (r : R3) (lim : Nat) : List R3 := (List.range rows.length).map fun x => if x % 2 ^ k = t ∧ x < lim then r else rows.getD x r0
theorem spreadK_len (rows : List R3) (t k : Nat) (r : R3) (lim : Nat) : (spreadK rows t k r lim).length = rows.length := by simp [spreadK]
theorem spreadK_get {rows : List R3} {t k lim x : Nat} {r : R3} (hx : x < rows.length) : (spreadK rows t k r lim)[x]? = some (if x % 2 ^ k = t ∧ x < lim then r else rows.getD x r0) := by
  unfold spreadK
  rw [List.getElem?_map, List.getElem?_range hx]
  rfl
theorem spreadK_zero {rows : List R3} {t k : Nat} {r : R3} : spreadK rows t k r t = rows := by
  apply List.ext_getElem?
  intro x
  by_cases hx : x < rows.length
  · rw [spreadK_get hx, if_neg, List.getD, List.getElem?_eq_getElem hx]
    · rfl
    · intro h
      have := Nat.mod_le x (2 ^ k)
      omega
  · rw [List.getElem?_eq_none (by rw [spreadK_len]; omega), List.getElem?_eq_none (by omega)]
theorem spreadK_step {rows : List R3} {t k n : Nat} {r : R3} (hn : n % 2 ^ k = t) : (spreadK rows t k r n).set n r = spreadK rows t k r (n + 2 ^ k) := by
  have hp := Nat.two_pow_pos k
  apply List.ext_getElem?
  intro x
  by_cases hx : x < rows.length
  · by_cases hxn : n = x
    · subst hxn
      rw [List.getElem?_set_self (by rw [spreadK_len]; exact hx), spreadK_get hx, if_pos ⟨hn, by omega⟩]
    · rw [List.getElem?_set_ne hxn, spreadK_get hx, spreadK_get hx]
      by_cases hm : x % 2 ^ k = t
      · by_cases hl : x < n
        · rw [if_pos ⟨hm, hl⟩, if_pos ⟨hm, by omega⟩]
        · by_cases hu : x < n + 2 ^ k
          · exfalso
            have h1 := Nat.sub_mod_eq_zero_of_mod_eq (hm.trans hn.symm)
            rw [Nat.mod_eq_of_lt (by omega)] at h1
            omega
          · rw [if_neg (by omega), if_neg (by omega)]
      · rw [if_neg (by omega), if_neg (by omega)]
  · rw [List.getElem?_eq_none (by rw [List.length_set, spreadK_len]; omega), List.getElem?_eq_none (by rw [spreadK_len]; omega)]
theorem spreadK_end {rows : List R3} {t k n : Nat} {r : R3} (hn : rows.length ≤ n) : spreadK rows t k r n = spreadL rows t k r := by
  unfold spreadK spreadL
  apply List.map_congr_left
  intro x hx
  rw [List.mem_range] at hx
  by_cases hm : x % 2 ^ k = t
  · rw [if_pos ⟨hm, by omega⟩, if_pos hm]
  · rw [if_neg (by omega), if_neg hm]
set_option maxRecDepth 100000 in
set_option maxHeartbeats 400000 in
theorem spread_any (g N k t : Nat) (rows : List R3) (r : R3) (w : World) (hN : rows.length = N) (hN2 : N ≤ 32768) (hk : k ≤ 15) (ht : t < 2 ^ k) (h : RB w g rows) :
    Calls Try.prog 43 #[.slice (some ⟨g, 0, none⟩) N N, .int .i64 (t : Int), .int .i64 (k : Int), .agg #[.int .i64 (r.1 : Int), .int .i64 (r.2.1 : Int), .bool r.2.2]] w
      fun e w' => e = .returned (.tuple #[]) ∧ RB w' g (spreadL rows t k r) ∧ Mod (oneB g) w w' := by
  have HR := Lib.hid h
  have HN := Lib.hid hN
  have hg := rb_lt h
  have hpk : (2 : Nat) ^ k ≤ 32768 := Nat.le_trans (Nat.pow_le_pow_right (by decide) hk) (by decide)
  have hp0 := Nat.two_pow_pos k
  have ht15 : t < 32768 := by omega
  have HT : Hid (t % 2 ^ k = t) := Nat.mod_eq_of_lt ht
  obtain ⟨s, n, d⟩ := r
  dsimp only at *
  obtain ⟨W1, hW1⟩ : ∃ W1, w.alloc (.cells #[.int .i64 (s : Int), .int .i64 (n : Int), .bool d] 35) = W1 := ⟨_, rfl⟩
  have HX1 : Hid (W1.heap[w.heap.size]? = some (.cells #[.int .i64 (s : Int), .int .i64 (n : Int), .bool d] 35)) := by show _ = _; rw [← hW1]; exact heap_alloc_new w _
  have HR1 : Hid (RB W1 g rows) := by show RB _ _ _; rw [← hW1]; exact (Below.heap_alloc w _ g hg).trans h
  have HM1 : Hid (Mod (oneB g) w W1) := by show Mod _ _ _; rw [← hW1]; exact (Mod.refl _ w).alloc _
  clear h hN ht
  go_enter Try.func43, Try.ntmps43
  go_wp2
  go_loopg [8] (N - t) (fun gk i wr => ∃ p : Nat, i = .int .i64 (p : Int) ∧ p % 2 ^ k = t ∧ p ≤ 70000 ∧ gk = N - p ∧ RB wr g (spreadK rows t k (s, n, d) p) ∧ wr.heap[w.heap.size]? = some (.cells #[.int .i64 (s : Int), .int .i64 (n : Int), .bool d] 35) ∧ Mod (oneB g) w wr)
  case atStart => exact ⟨t, rfl, HT.out, by omega, rfl, by rw [spreadK_zero]; exact HR1.out, HX1.out, HM1.out⟩
  case round =>
    obtain ⟨p, rfl, hpt, hp7, hgk, hrb, hbx, hmo⟩ := hrel
    have HRB := Lib.hid hrb
    have HBX := Lib.hid hbx
    have HMO := Lib.hid hmo
    have HPT := Lib.hid hpt
    clear hrb hbx hmo hpt HR1 HX1 HM1
    by_cases hpN : p < N
    · have hl : p < (spreadK rows t k (s, n, d) p).length := by rw [spreadK_len, HN.out]; exact hpN
      obtain ⟨q, hq⟩ : ∃ q, (spreadK rows t k (s, n, d) p)[p]? = some q := ⟨_, List.getElem?_eq_getElem hl⟩
      obtain ⟨c0, c1, c2⟩ := rb_cells HRB.out hq
      have f0 := rb_free HRB.out (p * 3)
      have f1 := rb_free HRB.out (p * 3 + 1)
      have f2 := rb_free HRB.out (p * 3 + 2)
      have x0 := cell_of_row wr w.heap.size 0 _ _ _ HBX.out
      have x1 := cell_of_row wr w.heap.size 1 _ _ _ HBX.out
      have x2 := cell_of_row wr w.heap.size 2 _ _ _ HBX.out
      have HS := Lib.hid (spreadK_step (rows := rows) (t := t) (r := (s, n, d)) HPT.out)
      have HRS : Hid (RB _ g _) := rb_set HRB.out p (s, n, d)
      rw [HS.out] at HRS
      have HP2 : Hid ((p + 2 ^ k) % 2 ^ k = t) := by show _ = _; rw [Nat.add_mod_right]; exact HPT.out
      have HGK := Lib.hid hgk
      have hsh : (2 : Int) ^ k = ((2 ^ k : Nat) : Int) := by simp
      obtain ⟨K, hK⟩ : ∃ K, 2 ^ k = K := ⟨_, rfl⟩
      rw [hK] at hp0 hpk HP2 hsh HRS
      clear hl hq hgk hW1
      go_wp2
      go_roundg (N - (p + K))
      case measure => have := HGK.out; omega
      case rel =>
        refine ⟨p + K, by go_num, by rw [hK]; exact HP2.out, by omega, rfl, HRS.out, ?_, ((HMO.out.set ⟨g, p * 3, none⟩ _ (.inl rfl)).set ⟨g, p * 3 + 1, none⟩ _ (.inl rfl)).set ⟨g, p * 3 + 2, none⟩ _ (.inl rfl)⟩
        refine (Below.heap_setCell _ _ _ _ ?_).trans ((Below.heap_setCell _ _ _ _ ?_).trans ((Below.heap_setCell _ _ _ _ ?_).trans HBX.out)) <;> (show w.heap.size ≠ g; omega)
    · have HSE := Lib.hid (spreadK_end (rows := rows) (t := t) (k := k) (n := p) (r := (s, n, d)) (by rw [HN.out]; omega))
      rw [HSE.out] at HRB
      go_wp2
      go_end0
      exact ⟨rfl, HRB.out, HMO.out⟩
end Go.Proofs.Ytnobeipabfdkjaa
