/- Layer 7, plainly: the lengths leave nothing over, and no others cost less. -/
import Derived.Test.YtbpgaaecifnohaaMgRunsPuts12
namespace Go.Proofs.Ytbpgaaecifnohaa

/-- Items, weight and symbol, as the first row. -/
def firstW (its : List (Nat × Nat)) : List WE := its.map fun x => (x.1, [x.2])
/-- The symbols of what is taken of the last row. -/
def symsW (its : List (Nat × Nat)) : List Nat := ((rowW (firstW its) 14).take (2 * its.length - 2)).flatMap (·.2)
def lnW (its : List (Nat × Nat)) (s : Nat) : Nat := (symsW its).count s

theorem firstW_take (its : List (Nat × Nat)) (m : Nat) : (firstW its).take m = firstW (its.take m) := by simp [firstW]
theorem firstW_len (its : List (Nat × Nat)) : (firstW its).length = its.length := by simp [firstW]
theorem firstW_wt (its : List (Nat × Nat)) : wtS (firstW its) = (its.map (·.1)).sum := by
  rw [wtS, firstW, List.map_map]
  rfl
theorem firstW_syms (its : List (Nat × Nat)) : (firstW its).flatMap (·.2) = its.map (·.2) := by
  induction its with
  | nil => rfl
  | cons x l ih =>
    rw [firstW, List.map_cons, List.flatMap_cons, List.map_cons]
    rw [firstW] at ih
    rw [ih]
    rfl
theorem one_kraft : ∀ c, c < 16 → sumN (fun j => (if 15 - j ≤ c then 1 else 0) * 2 ^ j) 15 + 2 ^ (15 - c) = 2 ^ 15 := by decide
theorem one_count : ∀ c, c < 16 → sumN (fun j => if 15 - j ≤ c then 1 else 0) 15 = c := by decide
theorem sumN_mul (w : Nat) (f : Nat → Nat) : ∀ k, sumN (fun j => w * f j) k = w * sumN f k
  | 0 => rfl
  | k + 1 => by rw [sumN, sumN, sumN_mul w f k, Nat.mul_add]
theorem filter_len_cons (p : Nat × Nat → Bool) (x : Nat × Nat) (l : List (Nat × Nat)) : ((x :: l).filter p).length = (if p x then 1 else 0) + (l.filter p).length := by
  rw [List.filter_cons]
  split
  · rw [List.length_cons]; omega
  · omega
theorem kraft_sum (f : Nat × Nat → Nat) : ∀ l : List (Nat × Nat), (∀ x ∈ l, f x ≤ 15) → sumN (fun j => (l.filter fun x => decide (15 - j ≤ f x)).length * 2 ^ j) 15 + (l.map fun x => 2 ^ (15 - f x)).sum = l.length * 2 ^ 15
  | [], _ => by simp [sumN_zero]
  | x :: l, h => by
    have ih := kraft_sum f l (fun y hy => h y (by simp [hy]))
    have h1 := one_kraft (f x) (by have := h x (by simp); omega)
    have e : sumN (fun j => ((x :: l).filter fun x => decide (15 - j ≤ f x)).length * 2 ^ j) 15 = sumN (fun j => (if 15 - j ≤ f x then 1 else 0) * 2 ^ j) 15 + sumN (fun j => (l.filter fun x => decide (15 - j ≤ f x)).length * 2 ^ j) 15 := by
      rw [← sumN_add]
      refine sumN_congr fun j _ => ?_
      rw [filter_len_cons, Nat.add_mul]
      simp only [decide_eq_true_eq]
    rw [e, List.map_cons, List.sum_cons, List.length_cons, Nat.succ_mul]
    omega
theorem weight_sum (f : Nat × Nat → Nat) : ∀ l : List (Nat × Nat), (∀ x ∈ l, f x ≤ 15) → sumN (fun j => ((l.filter fun x => decide (15 - j ≤ f x)).map (·.1)).sum) 15 = (l.map fun x => x.1 * f x).sum
  | [], _ => by simp [sumN_zero]
  | x :: l, h => by
    have ih := weight_sum f l (fun y hy => h y (by simp [hy]))
    have h1 := one_count (f x) (by have := h x (by simp); omega)
    have e : sumN (fun j => (((x :: l).filter fun x => decide (15 - j ≤ f x)).map (·.1)).sum) 15 = sumN (fun j => x.1 * (if 15 - j ≤ f x then 1 else 0)) 15 + sumN (fun j => ((l.filter fun x => decide (15 - j ≤ f x)).map (·.1)).sum) 15 := by
      rw [← sumN_add]
      refine sumN_congr fun j _ => ?_
      rw [List.filter_cons]
      by_cases hj : 15 - j ≤ f x
      · rw [if_pos (decide_eq_true hj), if_pos hj, List.map_cons, List.sum_cons, Nat.mul_one]
      · rw [if_neg (by simpa using hj), if_neg hj]
        omega
    rw [e, sumN_mul, h1, ih, List.map_cons, List.sum_cons]
theorem filter_take {α : Type} (p : α → Bool) : ∀ (l : List α) (m : Nat), (∀ i x, l[i]? = some x → (p x = true ↔ i < m)) → l.filter p = l.take m
  | [], m, _ => by simp
  | x :: l, 0, h => by
    rw [List.take_zero, List.filter_eq_nil_iff]
    intro y hy
    obtain ⟨i, hi⟩ := List.mem_iff_getElem?.1 hy
    have := h i y hi
    simp [this]
  | x :: l, m + 1, h => by
    have h0 := (h 0 x (by simp)).2 (by omega)
    rw [List.filter_cons, if_pos h0, List.take_succ_cons, filter_take p l m fun i y hy => by
      rw [h (i + 1) y (by simpa using hy)]
      omega]
theorem up_count (P : Nat → Prop) [DecidablePred P] : ∀ N, (∀ j, j + 1 < N → P j → P (j + 1)) → sumN (fun j => if P j then 1 else 0) N ≤ N ∧ ∀ j, j < N → (P j ↔ N - sumN (fun j => if P j then 1 else 0) N ≤ j)
  | 0, _ => ⟨Nat.le_refl _, fun j h => by omega⟩
  | N + 1, up => by
    obtain ⟨h1, h2⟩ := up_count P N (fun j hj => up j (by omega))
    rw [sumN]
    obtain ⟨c, hc⟩ : ∃ c, sumN (fun j => if P j then 1 else 0) N = c := ⟨_, rfl⟩
    rw [hc] at h1 h2 ⊢
    by_cases hN : P N
    · rw [if_pos hN]
      refine ⟨by omega, fun j hj => ?_⟩
      by_cases e : j = N
      · subst e
        exact ⟨fun _ => by omega, fun _ => hN⟩
      · rw [h2 j (by omega)]
        omega
    · rw [if_neg hN]
      have hc0 : c = 0 := by
        rcases Nat.eq_zero_or_pos c with h | h
        · exact h
        · have h3 := (h2 (N - 1) (by omega)).2 (by omega)
          have h4 := up (N - 1) (by omega) h3
          rw [show N - 1 + 1 = N by omega] at h4
          exact absurd h4 hN
      subst hc0
      refine ⟨by omega, fun j hj => ⟨fun h => ?_, fun h => by omega⟩⟩
      by_cases e : j = N
      · subst e
        exact absurd h hN
      · have := (h2 j (by omega)).1 h
        omega
theorem count_take {l : List Nat} (hn : l.Nodup) {i s : Nat} (h : l[i]? = some s) (m : Nat) : (l.take m).count s = if i < m then 1 else 0 := by
  obtain ⟨hi, hs⟩ := List.getElem?_eq_some_iff.1 h
  by_cases hm : i < m
  · rw [if_pos hm]
    have h1 : s ∈ l.take m := List.mem_of_getElem? (i := i) (by rw [List.getElem?_take_of_lt hm]; exact h)
    have h2 := (List.nodup_iff_count.1 ((List.take_sublist m l).nodup hn) s)
    have h3 := List.count_pos_iff.2 h1
    omega
  · rw [if_neg hm, List.count_eq_zero]
    intro h1
    obtain ⟨j, hj⟩ := List.mem_iff_getElem?.1 h1
    have hjm : j < m := by
      have := (List.getElem?_eq_some_iff.1 hj).1
      rw [List.length_take] at this
      omega
    rw [List.getElem?_take_of_lt hjm] at hj
    have := (List.getElem?_inj hi hn).1 (h.trans hj.symm)
    omega
theorem rowW_enough (first : List WE) : ∀ k, 2 * first.length * 2 ^ k + 1 ≤ (rowW first k).length * 2 ^ k + first.length + 2 ^ k
  | 0 => by show 2 * first.length * 1 + 1 ≤ first.length * 1 + first.length + 1; omega
  | k + 1 => by
    have ih := rowW_enough first k
    rw [rowW, mgW_len, prW_len, Nat.pow_succ]
    have hp := Nat.two_pow_pos k
    generalize (rowW first k).length = r at ih ⊢
    generalize 2 ^ k = q at ih hp ⊢
    generalize first.length = n at ih ⊢
    have h1 : r * q ≤ (2 * (r / 2) + 1) * q := Nat.mul_le_mul_right _ (by omega)
    rw [Nat.add_mul, Nat.one_mul] at h1
    have e1 : (n + r / 2) * (q * 2) = 2 * n * q + 2 * (r / 2) * q := by
      rw [Nat.mul_comm q 2, ← Nat.mul_assoc, Nat.add_mul, Nat.add_mul, Nat.mul_comm n 2, Nat.mul_comm (r / 2) 2]
    have e2 : 2 * n * (q * 2) = 2 * n * q + 2 * n * q := by
      rw [← Nat.mul_assoc]
      omega
    omega
theorem row14 {first : List WE} (h : first.length ≤ 16384) : 2 * first.length - 2 ≤ (rowW first 14).length := by
  have h1 := rowW_enough first 14
  omega

/-- What lengths of items are said to be. -/
structure Good (its : List (Nat × Nat)) : Prop where
  rise : RiseW (firstW its)
  nodup : (its.map (·.2)).Nodup
  two : 2 ≤ its.length
  few : its.length ≤ 16384

section
variable {its : List (Nat × Nat)}
theorem Good.sets (h : Good its) : ∃ m : Nat → Nat, Chosen (firstW its) 14 (2 * its.length - 2) m := chosen h.rise 14 _ (by have := row14 (first := firstW its) (by rw [firstW_len]; exact h.few); rwa [firstW_len] at this)
theorem ln_count {m : Nat → Nat} (h : Chosen (firstW its) 14 (2 * its.length - 2) m) (s : Nat) : lnW its s = sumN (fun j => ((its.take (m j)).map (·.2)).count s) 15 := by
  rw [lnW, symsW, h.count]
  refine sumN_congr fun j _ => ?_
  rw [firstW_take, firstW_syms]
theorem ln_at (hg : Good its) {m : Nat → Nat} (h : Chosen (firstW its) 14 (2 * its.length - 2) m) {i : Nat} {x : Nat × Nat} (hx : its[i]? = some x) : lnW its x.2 ≤ 15 ∧ lnW its x.2 = sumN (fun j => if i < m j then 1 else 0) 15 ∧ ∀ j, j < 15 → (i < m j ↔ 15 - lnW its x.2 ≤ j) := by
  have e : lnW its x.2 = sumN (fun j => if i < m j then 1 else 0) 15 := by
    rw [ln_count h]
    refine sumN_congr fun j _ => ?_
    rw [List.map_take]
    exact count_take hg.nodup (by rw [List.getElem?_map, hx]; rfl) _
  have := up_count (fun j => i < m j) 15 (fun j hj hi => Nat.lt_of_lt_of_le hi (h.up j (by omega)))
  rw [← e] at this
  exact ⟨this.1, e, this.2⟩
theorem ln_set (hg : Good its) {m : Nat → Nat} (h : Chosen (firstW its) 14 (2 * its.length - 2) m) {j : Nat} (hj : j < 15) : its.filter (fun x => decide (15 - j ≤ lnW its x.2)) = its.take (m j) :=
  filter_take _ its (m j) fun i x hx => by
    rw [decide_eq_true_iff]
    have h1 := (ln_at hg h hx).2.2 j hj
    have h2 := (ln_at hg h hx).1
    rw [h1]
    omega
theorem ln_le (hg : Good its) {x : Nat × Nat} (hx : x ∈ its) : lnW its x.2 ≤ 15 := by
  obtain ⟨m, h⟩ := hg.sets
  obtain ⟨i, hi⟩ := List.mem_iff_getElem?.1 hx
  exact (ln_at hg h hi).1
/-- They leave nothing over. -/
theorem ln_kraft (hg : Good its) : (its.map fun x => 2 ^ (15 - lnW its x.2)).sum = 2 ^ 15 := by
  obtain ⟨m, h⟩ := hg.sets
  have h1 := kraft_sum (fun x => lnW its x.2) its (fun x hx => ln_le hg hx)
  have h2 : sumN (fun j => (its.filter fun x => decide (15 - j ≤ lnW its x.2)).length * 2 ^ j) 15 = (2 * its.length - 2) * 2 ^ 14 := by
    rw [← h.width]
    refine sumN_congr fun j hj => ?_
    rw [ln_set hg h hj, List.length_take, Nat.min_eq_left]
    have := h.le j (by omega)
    rwa [firstW_len] at this
  rw [h2] at h1
  have := hg.two
  omega
theorem sum_mem {α : Type} (f : α → Nat) : ∀ (l : List α) (x : α), x ∈ l → f x + (l.length - 1) * 1 ≤ (l.map f).sum + (l.filter fun y => f y = 0).length
  | [], x, h => by simp at h
  | y :: l, x, h => by
    rw [List.map_cons, List.sum_cons, List.length_cons, List.filter_cons]
    by_cases hy : x = y
    · subst hy
      have h2 : ∀ l : List α, l.length ≤ (l.map f).sum + (l.filter fun y => f y = 0).length := by
        intro l
        induction l with
        | nil => exact Nat.le_refl _
        | cons z l ih =>
          rw [List.map_cons, List.sum_cons, List.length_cons, List.filter_cons]
          by_cases hz : f z = 0
          · rw [if_pos (by simpa using hz), List.length_cons]; omega
          · rw [if_neg (by simpa using hz)]; omega
      have := h2 l
      by_cases hz : f x = 0
      · rw [if_pos (by simpa using hz), List.length_cons]; omega
      · rw [if_neg (by simpa using hz)]; omega
    · have hm : x ∈ l := by
        rcases List.mem_cons.1 h with h | h
        · exact absurd h hy
        · exact h
      have ih := sum_mem f l x hm
      have hp := List.length_pos_of_mem hm
      by_cases hz : f y = 0
      · rw [if_pos (by simpa using hz), List.length_cons]; omega
      · rw [if_neg (by simpa using hz)]; omega
theorem ln_pos (hg : Good its) {x : Nat × Nat} (hx : x ∈ its) : 1 ≤ lnW its x.2 := by
  rcases Nat.eq_zero_or_pos (lnW its x.2) with h | h
  · have h1 := sum_mem (fun x => 2 ^ (15 - lnW its x.2)) its x hx
    rw [ln_kraft hg, h] at h1
    have h2 : (its.filter fun y => 2 ^ (15 - lnW its y.2) = 0) = [] := by
      rw [List.filter_eq_nil_iff]
      intro y _
      have := Nat.two_pow_pos (15 - lnW its y.2)
      simp
    rw [h2] at h1
    have := hg.two
    simp only [List.length_nil] at h1
    omega
  · exact h
/-- No item has a longer code than one ahead of it. -/
theorem ln_down (hg : Good its) {i k : Nat} {x y : Nat × Nat} (hx : its[i]? = some x) (hy : its[k]? = some y) (hik : i ≤ k) : lnW its y.2 ≤ lnW its x.2 := by
  obtain ⟨m, h⟩ := hg.sets
  obtain ⟨_, e1, h1⟩ := ln_at hg h hx
  obtain ⟨l2, e2, h2⟩ := ln_at hg h hy
  rcases Nat.lt_or_ge (lnW its x.2) (lnW its y.2) with hlt | hge
  · have h3 := (h2 (15 - lnW its y.2) (by omega)).2 (Nat.le_refl _)
    have h4 := (h1 (15 - lnW its y.2) (by omega)).1 (by omega)
    omega
  · exact hge
theorem ln_none {s : Nat} (hg : Good its) (hs : s ∉ its.map (·.2)) : lnW its s = 0 := by
  obtain ⟨m, h⟩ := hg.sets
  rw [ln_count h]
  rw [← sumN_zero 15]
  refine sumN_congr fun j _ => ?_
  rw [List.count_eq_zero]
  intro h1
  rw [List.map_take] at h1
  exact hs (List.mem_of_mem_take h1)
/-- No others that leave nothing over cost less. -/
theorem ln_best (hg : Good its) (f : Nat × Nat → Nat) (hf : ∀ x ∈ its, f x ≤ 15) (hk : (its.map fun x => 2 ^ (15 - f x)).sum = 2 ^ 15) : (its.map fun x => x.1 * lnW its x.2).sum ≤ (its.map fun x => x.1 * f x).sum := by
  obtain ⟨m, h⟩ := hg.sets
  have h1 := kraft_sum f its hf
  have h2 : sumN (fun j => (firstW (its.filter fun x => decide (15 - j ≤ f x))).length * 2 ^ j) (14 + 1) = (2 * its.length - 2) * 2 ^ 14 := by
    have e : sumN (fun j => (firstW (its.filter fun x => decide (15 - j ≤ f x))).length * 2 ^ j) (14 + 1) = sumN (fun j => (its.filter fun x => decide (15 - j ≤ f x)).length * 2 ^ j) 15 := sumN_congr fun j _ => by rw [firstW_len]
    rw [e]
    have := hg.two
    omega
  have h3 := (row_least hg.rise 14 _ (fun j => firstW (its.filter fun x => decide (15 - j ≤ f x))) (fun j _ => List.Sublist.map _ List.filter_sublist) h2).2
  have h4 : sumN (fun j => wtS (firstW (its.filter fun x => decide (15 - j ≤ f x)))) (14 + 1) = (its.map fun x => x.1 * f x).sum := by
    rw [← weight_sum f its hf]
    exact sumN_congr fun j _ => firstW_wt _
  have h5 : sumN (fun j => wtS ((firstW its).take (m j))) (14 + 1) = (its.map fun x => x.1 * lnW its x.2).sum := by
    rw [← weight_sum (fun x => lnW its x.2) its (fun x hx => ln_le hg hx)]
    refine sumN_congr fun j hj => ?_
    rw [ln_set hg h hj, firstW_take, firstW_wt]
  rw [h.weight, h5, h4] at h3
  exact h3
end
end Go.Proofs.Ytbpgaaecifnohaa
/- Layer 7: Lengths. -/
namespace Go.Proofs.Ytbpgaaecifnohaa
open Go.RowKit Go.Shelf
attribute [local go_sem] Oper.semAt_some

def wB (n : Int) : Bool := decide (0 ≤ n) && decide (n ≤ 1073741824)
theorem wB_yes {n : Int} (h : wB n = true) : 0 ≤ n ∧ n ≤ 1073741824 := by simpa [wB] using h
set_option maxHeartbeats 400000 in
theorem rweight_any (n : Int) (w : World) : Calls Try.prog 51 #[.int .i64 n] w fun e w' => e = .returned (.bool (wB n)) ∧ w = w' := by
  by_cases h1 : 0 ≤ n
  · by_cases h2 : n ≤ 1073741824
    · have HD : Hid (wB n = true) := by show _ = _; simp [wB, h1, h2]
      go_enter Try.func51, Try.ntmps51
      go_wp2
      go_ret
      exact ⟨by rw [HD.out]; rfl, rfl⟩
    · have HD : Hid (wB n = false) := by show _ = _; simp [wB, h2]
      have h2' : decide (n ≤ 1073741824) = false := by simpa using h2
      clear h2
      go_enter Try.func51, Try.ntmps51
      go_wp2
      go_ret
      exact ⟨by rw [HD.out]; rfl, rfl⟩
  · have HD : Hid (wB n = false) := by show _ = _; simp [wB, h1]
    go_enter Try.func51, Try.ntmps51
    go_wp2
    go_ret
    exact ⟨by rw [HD.out]; rfl, rfl⟩
def zCs (zs : List Int) : List Value := zs.map (Value.int .i64)
theorem zCs_at {zs : List Int} {k : Nat} {n : Int} (h : zs[k]? = some n) : (zCs zs)[k]? = some (.int .i64 n) := by simp [zCs, h]
theorem zCs_len (zs : List Int) : (zCs zs).length = zs.length := by simp [zCs]
set_option maxHeartbeats 1000000 in
theorem lengths_size (A : Option Addr) (l c : Nat) (w : World) (hl : 320 < l) (hm : l ≤ 9223372036854775807) :
    Calls Try.prog 25 #[.slice A l c] w fun e w' => e = .returned (.tuple #[.slice none 0 0, .int .i64 5]) ∧ w = w' := by
  have hd : decide ((320 : Int) < (l : Int)) = true := by simp; omega
  clear hl
  go_enter Try.func25, Try.ntmps25
  go_wp2
  go_ret2
  exact ⟨rfl, rfl⟩
set_option maxRecDepth 100000 in
set_option maxHeartbeats 1000000 in
theorem lengths_arg (A : Option Addr) (l c : Nat) (zs : List Int) (B : Nat) (w : World) (hz : zs.length = l) (hl : l ≤ 320) (hb : Cells w B A (zCs zs)) (hbad : zs.all wB = false) :
    Calls Try.prog 25 #[.slice A l c] w fun e w' => e = .returned (.tuple #[.slice none 0 0, .int .i64 1]) ∧ w = w' := by
  have HC := Lib.hid hb
  have HL := Lib.hid hz
  have HBAD := Lib.hid hbad
  have hd : decide ((320 : Int) < (l : Int)) = false := by simp; omega
  clear hb hz hbad
  go_enter Try.func25, Try.ntmps25
  go_wp2
  go_loopg [17] l (fun gk i wr => ∃ k : Nat, k + gk = l ∧ i = .int .i64 k ∧ wr = w ∧ (zs.take k).all wB = true)
  case atStart => exact ⟨0, by omega, rfl, rfl, rfl⟩
  case round =>
    obtain ⟨k, hk, rfl, rfl, hall⟩ := hrel
    have HALL := Lib.hid hall
    clear hall
    by_cases h : k < l
    · obtain ⟨x, hx⟩ : ∃ x, zs[k]? = some x := ⟨_, List.getElem?_eq_getElem (by have := HL.out; omega)⟩
      obtain ⟨b, o, rfl, hbB, hc⟩ := HC.out (by rw [zCs_len, HL.out]; omega)
      have c0 : wr.cell? ⟨b, o + k, none⟩ = some (.int .i64 x) := hc k _ (zCs_at hx)
      have HT : Hid (zs.take (k + 1) = zs.take k ++ [x]) := by show _ = _; rw [List.take_add_one, hx]; rfl
      obtain ⟨q, hq⟩ : ∃ q, wB x = q := ⟨_, rfl⟩
      have HQ := Lib.hid hq
      have HR := Lib.hid (rweight_any x wr)
      rw [hq] at HR
      clear hc hx hq
      cases q with
      | true =>
        go_wp2_with (go_at_call 51; refine HR.out.mono ?_; rintro e w' ⟨rfl, rfl⟩)
        go_roundg (gk - 1)
        case measure => omega
        case rel => exact ⟨k + 1, by omega, by go_num, rfl, by rw [HT.out, List.all_append, HALL.out]; simp [HQ.out]⟩
      | false =>
        go_wp2_with (go_at_call 51; refine HR.out.mono ?_; rintro e w' ⟨rfl, rfl⟩)
        go_ret2
        exact ⟨rfl, rfl⟩
    · obtain rfl : k = l := by omega
      rw [List.take_of_length_le (by have := HL.out; omega)] at HALL
      have h1 := HALL.out
      rw [HBAD.out] at h1
      cases h1
end Go.Proofs.Ytbpgaaecifnohaa
