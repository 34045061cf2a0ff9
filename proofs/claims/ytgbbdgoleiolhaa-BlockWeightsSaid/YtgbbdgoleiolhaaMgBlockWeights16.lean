/- Layer 8: CanonValues, the law. -/
import Derived.Test.YtgbbdgoleiolhaaMgBlockWeights15
import Derived.Test.YtgbbdgoleiolhaaCrPl
namespace Go.Proofs.Ytgbbdgoleiolhaa
open Go.RowKit

def wantK (zs : List Int) (s : Int) (k : Nat) : Int := if 0 ≤ s ∧ s < (k : Int) then zs.getD s.toNat 0 else 0
theorem wantK_all {zs : List Int} (s : Int) : wantK zs s zs.length = lenAt zs s := by
  unfold wantK lenAt
  by_cases h0 : 0 ≤ s
  · rw [if_pos h0]
    by_cases h1 : s < (zs.length : Int)
    · rw [if_pos ⟨h0, h1⟩]
    · rw [if_neg (by omega), List.getD, List.getElem?_eq_none (by omega)]; rfl
  · rw [if_neg h0, if_neg (by omega)]
end Go.Proofs.Ytgbbdgoleiolhaa
/- Layer 8, plainly: each code is where the weights ahead of it end; no code begins another one. -/
namespace Go.Proofs.Ytgbbdgoleiolhaa
open Go.RowKit

theorem ordL_ne (zs : List Int) : (ordL zs).Pairwise (· ≠ ·) := (whole_sorted zs 15).imp fun {a b} h e => by
  subst e
  unfold ltx at h
  omega
theorem ord_ne {zs : List Int} {i j s t : Nat} (hi : (ordL zs)[i]? = some s) (hj : (ordL zs)[j]? = some t) (hne : i ≠ j) : s ≠ t := by
  have h := List.pairwise_iff_getElem.1 (ordL_ne zs)
  obtain ⟨li, rfl⟩ := List.getElem?_eq_some_iff.1 hi
  obtain ⟨lj, rfl⟩ := List.getElem?_eq_some_iff.1 hj
  rcases Nat.lt_or_ge i j with h1 | h1
  · exact h i j li lj h1
  · exact (h j i lj li (by omega)).symm
/-- A symbol's code, weighed, is what stands ahead of it. -/
theorem val_of {zs : List Int} {k s n : Nat} (hk : (ordL zs)[k]? = some s) (hn : zs[s]? = some (n : Int)) : ∃ v : Nat, (caV zs)[s]? = some (v : Int) ∧ v * 2 ^ (15 - n) = osum zs ((ordL zs).take k) := by
  have hkl := (List.getElem?_eq_some_iff.1 hk).1
  obtain ⟨hvi, hle⟩ := vi_take zs k (by omega)
  obtain ⟨n', hn', hn1, hn15⟩ := whole_mem (mem_get hk)
  have e : n' = n := by rw [hn] at hn'; injection hn' with h; omega
  subst e
  have ha := hle s n' hk hn
  have hsl := (List.getElem?_eq_some_iff.1 hn).1
  obtain ⟨X, hX⟩ : ∃ X, vst zs ((ordL zs).take k) = X := ⟨_, rfl⟩
  rw [hX] at hvi ha
  obtain ⟨x, a, vs⟩ := X
  have hlen := hvi.len
  dsimp only at ha hlen
  refine ⟨x * 2 ^ (n' - a), ?_, hvi.val hn15 ha⟩
  have key : ∀ j, k + 1 ≤ j → j ≤ (ordL zs).length → (vst zs ((ordL zs).take j)).2.2[s]? = some ((x * 2 ^ (n' - a) : Nat) : Int) := by
    intro j
    induction j with
    | zero => intro h; omega
    | succ j ih =>
      intro h1 h2
      obtain ⟨t, ht⟩ : ∃ t, (ordL zs)[j]? = some t := ⟨_, List.getElem?_eq_getElem (by omega)⟩
      rw [take_snoc' ht, vst_snoc]
      by_cases hj : j = k
      · have e : t = s := by
          rw [hj, hk] at ht
          injection ht with ht
          exact ht.symm
        rw [e, hj, hX]
        show (vs.set s ((x * 2 ^ ((zs.getD s 0).toNat - a) : Nat) : Int))[s]? = _
        rw [getD_of hn, Int.toNat_natCast, List.getElem?_set_self (by omega)]
      · show ((vst zs ((ordL zs).take j)).2.2.set t _)[s]? = _
        rw [List.getElem?_set_ne (ord_ne ht hk hj)]
        exact ih (by omega) (by omega)
  have h := key (ordL zs).length (by omega) (Nat.le_refl _)
  rw [List.take_length] at h
  exact h
theorem filt_sum {α : Type} (p : α → Bool) (f : α → Nat) : ∀ L : List α, ((L.filter p).map f).sum = (L.map fun t => if p t = true then f t else 0).sum
  | [] => rfl
  | t :: L => by
    rw [List.map_cons, List.sum_cons, ← filt_sum p f L, List.filter_cons]
    split
    · rw [List.map_cons, List.sum_cons]
    · rw [Nat.zero_add]
theorem sum_add {α : Type} (f g h : α → Nat) : ∀ L : List α, (∀ t ∈ L, h t = f t + g t) → (L.map h).sum = (L.map f).sum + (L.map g).sum
  | [], _ => rfl
  | t :: L, hh => by
    rw [List.map_cons, List.map_cons, List.map_cons, List.sum_cons, List.sum_cons, List.sum_cons, sum_add f g h L (fun x hx => hh x (List.mem_cons_of_mem _ hx)), hh t (by simp)]
    omega
theorem sum_zero {α : Type} (f : α → Nat) : ∀ L : List α, (∀ t ∈ L, f t = 0) → (L.map f).sum = 0
  | [], _ => rfl
  | t :: L, h => by rw [List.map_cons, List.sum_cons, h t (by simp), sum_zero f L (fun x hx => h x (List.mem_cons_of_mem _ hx))]
theorem osum_append (zs : List Int) (a b : List Nat) : osum zs (a ++ b) = osum zs a + osum zs b := by simp [osum]
theorem osum_whole (zs : List Int) : ∀ m : Nat, osum zs (whole zs m) = ((List.range zs.length).map fun t => if 0 < zs.getD t 0 ∧ zs.getD t 0 ≤ (m : Int) then wt (zs.getD t 0) else 0).sum
  | 0 => by
    show 0 = _
    symm
    exact sum_zero _ _ (fun t _ => if_neg (by omega))
  | m + 1 => by
    rw [whole, osum_append, osum_whole zs m]
    unfold osum ixs
    rw [filt_sum]
    symm
    refine sum_add _ _ _ _ fun t ht => ?_
    rw [List.mem_range] at ht
    obtain ⟨x, hx⟩ : ∃ x, zs[t]? = some x := ⟨_, List.getElem?_eq_getElem ht⟩
    rw [getD_of hx, hx]
    by_cases h1 : x = ((m + 1 : Nat) : Int)
    · rw [if_pos (by omega), if_neg (by omega), if_pos (by rw [decide_eq_true_eq, h1]), Nat.zero_add]
    · rw [if_neg (c := decide (some x = some ((m + 1 : Nat) : Int)) = true) (by rw [decide_eq_true_eq]; intro e; injection e with e; exact h1 e)]
      by_cases h2 : 0 < x ∧ x ≤ (m : Int)
      · rw [if_pos h2, if_pos (by omega), Nat.add_zero]
      · rw [if_neg h2, if_neg (by omega)]
theorem map_range_getD (zs : List Int) (f : Int → Nat) : (zs.map f) = (List.range zs.length).map fun t => f (zs.getD t 0) := by
  apply List.ext_getElem?
  intro i
  rw [List.getElem?_map, List.getElem?_map]
  by_cases h : i < zs.length
  · rw [List.getElem?_range h, List.getElem?_eq_getElem h]
    simp [List.getD, h]
  · rw [List.getElem?_eq_none (by omega), List.getElem?_eq_none (by simpa using h)]
    rfl
theorem osum_all {zs : List Int} (h : ∀ x ∈ zs, lenB x = true) : osum zs (ordL zs) = wsum zs := by
  unfold ordL wsum
  rw [osum_whole, map_range_getD]
  congr 1
  apply List.map_congr_left
  intro t ht
  rw [List.mem_range] at ht
  obtain ⟨x, hx⟩ : ∃ x, zs[t]? = some x := ⟨_, List.getElem?_eq_getElem ht⟩
  have hb := lenB_yes (h x (List.mem_of_getElem? hx))
  rw [getD_of hx]
  split
  · rfl
  · rw [wt, if_neg (by omega)]
theorem wsum_zob : ∀ {zs : List Int}, zs.all zobB = true → (wsum zs : Int) = zs.sum * 16384
  | [], _ => rfl
  | x :: l, h => by
    rw [List.all_cons, Bool.and_eq_true] at h
    have ih := wsum_zob h.2
    have hx : x = 0 ∨ x = 1 := by simpa [zobB] using h.1
    unfold wsum at ih ⊢
    rw [List.map_cons, List.sum_cons, List.sum_cons]
    push_cast
    rw [ih]
    rcases hx with rfl | rfl
    · simp [wt]
    · have : wt 1 = 16384 := rfl
      rw [this]; omega
theorem caR_wsum {zs : List Int} (h : caR zs = true) : wsum zs ≤ 32768 := by
  unfold caR at h
  rw [Bool.and_eq_true, Bool.and_eq_true, Bool.or_eq_true, decide_eq_true_eq, decide_eq_true_eq, decide_eq_true_eq] at h
  rcases h.2 with h1 | h1
  · omega
  · have := wsum_zob (alone_iff h.1.2 h1)
    omega
theorem osum_mono (zs : List Int) (k : Nat) : osum zs ((ordL zs).take k) ≤ osum zs (ordL zs) := by
  have h := osum_append zs ((ordL zs).take k) ((ordL zs).drop k)
  rw [List.take_append_drop] at h
  omega
theorem osum_step {zs : List Int} {k s n : Nat} (hk : (ordL zs)[k]? = some s) (hn : zs[s]? = some (n : Int)) (h1 : 1 ≤ n) : osum zs ((ordL zs).take (k + 1)) = osum zs ((ordL zs).take k) + 2 ^ (15 - n) := by
  rw [take_snoc' hk, osum_snoc, getD_of hn, wt, if_pos (by omega), Int.toNat_natCast]
theorem osum_up (zs : List Int) {i j : Nat} (h : i ≤ j) : osum zs ((ordL zs).take i) ≤ osum zs ((ordL zs).take j) := by
  obtain ⟨d, rfl⟩ : ∃ d, j = i + d := ⟨j - i, by omega⟩
  rw [List.take_add, osum_append]
  omega
/-- A code is a number of as many bits as the symbol's length. -/
theorem val_lt {zs : List Int} (hr : caR zs = true) {k s n v : Nat} (hk : (ordL zs)[k]? = some s) (hn : zs[s]? = some (n : Int)) (h1 : 1 ≤ n) (h15 : n ≤ 15) (hv : v * 2 ^ (15 - n) = osum zs ((ordL zs).take k)) : v < 2 ^ n := by
  have h2 := osum_step hk hn h1
  have h3 := osum_mono zs (k + 1)
  rw [osum_all (caR_len hr).2] at h3
  have h4 := caR_wsum hr
  have h5 : (v + 1) * 2 ^ (15 - n) ≤ 2 ^ n * 2 ^ (15 - n) := by
    rw [← Nat.pow_add, show n + (15 - n) = 15 by omega, Nat.succ_mul, hv]
    have : (2 : Nat) ^ 15 = 32768 := by decide
    omega
  have h6 := Nat.le_of_mul_le_mul_right h5 (Nat.two_pow_pos (15 - n))
  omega
/-- Of a symbol: its length, its place in the order, its code. -/
structure Sym (zs : List Int) (s n v k : Nat) : Prop where
  at_ : (ordL zs)[k]? = some s
  len : zs[s]? = some (n : Int)
  one : 1 ≤ n
  few : n ≤ 15
  val : (caV zs)[s]? = some (v : Int)
  sum : v * 2 ^ (15 - n) = osum zs ((ordL zs).take k)
theorem sym_at {zs : List Int} {k s : Nat} (hk : (ordL zs)[k]? = some s) : ∃ n v, Sym zs s n v k := by
  obtain ⟨n, hn, hn1, hn15⟩ := whole_mem (mem_get hk)
  obtain ⟨v, hv, hs⟩ := val_of hk hn
  exact ⟨n, v, hk, hn, hn1, hn15, hv, hs⟩
theorem sym_of {zs : List Int} {s n : Nat} (hn : zs[s]? = some (n : Int)) (h1 : 1 ≤ n) (h15 : n ≤ 15) : ∃ v k, Sym zs s n v k := by
  have hm := whole_has hn h1 h15
  obtain ⟨k, hk⟩ := List.mem_iff_getElem?.1 hm
  obtain ⟨v, hv, hs⟩ := val_of hk hn
  exact ⟨v, k, hk, hn, h1, h15, hv, hs⟩
theorem Sym.lt {zs : List Int} (hr : caR zs = true) {s n v k : Nat} (h : Sym zs s n v k) : v < 2 ^ n := val_lt hr h.at_ h.len h.one h.few h.sum
theorem Sym.place {zs : List Int} {s n v k s' n' v' k' : Nat} (h : Sym zs s n v k) (h' : Sym zs s' n' v' k') (hk : k < k') : (v + 1) * 2 ^ (15 - n) ≤ v' * 2 ^ (15 - n') := by
  rw [h'.sum, Nat.succ_mul, h.sum, ← osum_step h.at_ h.len h.one]
  exact osum_up zs hk
/-- No code begins another one. -/
theorem Sym.apart {zs : List Int} {s n v k s' n' v' k' : Nat} (h : Sym zs s n v k) (h' : Sym zs s' n' v' k') (hn : n ≤ n') (hv : v' / 2 ^ (n' - n) = v) : s = s' := by
  have hf := h'.few
  have e : (2 : Nat) ^ (15 - n) = 2 ^ (n' - n) * 2 ^ (15 - n') := by rw [← Nat.pow_add]; congr 1; omega
  have hp := Nat.two_pow_pos (n' - n)
  have hp2 := Nat.two_pow_pos (15 - n')
  have hq := Nat.div_add_mod v' (2 ^ (n' - n))
  have hm := Nat.mod_lt v' hp
  rw [hv] at hq
  rcases Nat.lt_trichotomy k k' with hk | hk | hk
  · have hpl := h.place h' hk
    rw [e, ← Nat.mul_assoc] at hpl
    have h3 := Nat.le_of_mul_le_mul_right hpl hp2
    rw [Nat.succ_mul, Nat.mul_comm v] at h3
    omega
  · subst hk
    have := h.at_.symm.trans h'.at_
    injection this
  · have hpl := h'.place h hk
    rw [e, ← Nat.mul_assoc] at hpl
    have h3 := Nat.le_of_mul_le_mul_right hpl hp2
    rw [Nat.mul_comm v] at h3
    omega
end Go.Proofs.Ytgbbdgoleiolhaa
/- Layer 8, plainly: the symbol that bits begin with. -/
namespace Go.Proofs.Ytgbbdgoleiolhaa
open Go.RowKit BitsP

/-- Bits as a number, the highest one first. -/
def hiN (L : List Bool) : Nat := num L.reverse
theorem hiN_snoc (L : List Bool) (b : Bool) : hiN (L ++ [b]) = bit b + 2 * hiN L := by
  unfold hiN
  rw [List.reverse_append]
  rfl
theorem hiN_lt (L : List Bool) : hiN L < 2 ^ L.length := by
  have h := num_lt L.reverse
  rw [List.length_reverse, p2_pow] at h
  exact h
theorem hiN_code {v n : Nat} (h : v < 2 ^ n) : hiN (codeB v n) = v := by
  unfold hiN codeB
  rw [List.reverse_reverse, num_bitsOf, p2_pow, Nat.mod_eq_of_lt h]
theorem hiN_up {U : List Bool} {n : Nat} {b : Bool} (hb : U[n]? = some b) : hiN (U.take (n + 1)) = bit b + 2 * hiN (U.take n) := by
  rw [take_snoc' hb, hiN_snoc]
theorem hiN_take {U : List Bool} {n : Nat} : ∀ d, n + d ≤ U.length → hiN (U.take (n + d)) / 2 ^ d = hiN (U.take n)
  | 0, _ => by rw [Nat.add_zero, Nat.pow_zero, Nat.div_one]
  | d + 1, h => by
    obtain ⟨b, hb⟩ : ∃ b, U[n + d]? = some b := ⟨_, List.getElem?_eq_getElem (by omega)⟩
    have h2 : (bit b + 2 * hiN (U.take (n + d))) / 2 = hiN (U.take (n + d)) := by have := bit_le b; omega
    rw [show n + (d + 1) = n + d + 1 by omega, hiN_up hb, Nat.pow_succ, Nat.mul_comm (2 ^ d) 2, ← Nat.div_div_eq_div_mul, h2, hiN_take d (by omega)]
theorem whole_pre (zs : List Int) (n : Nat) : ∀ d, ∃ R, whole zs (n + d) = whole zs n ++ R ∧ ∀ s ∈ R, ∃ m : Nat, zs[s]? = some (m : Int) ∧ n < m
  | 0 => ⟨[], by simp, by simp⟩
  | d + 1 => by
    obtain ⟨R, h, hR⟩ := whole_pre zs n d
    refine ⟨R ++ ixs zs (n + d + 1) zs.length, by rw [show n + (d + 1) = n + d + 1 by omega, whole, h, List.append_assoc], fun s hs => ?_⟩
    rcases List.mem_append.1 hs with h1 | h1
    · exact hR s h1
    · simp only [ixs, List.mem_filter, decide_eq_true_eq] at h1
      exact ⟨n + d + 1, h1.2, by omega⟩
/-- The symbols of a length up to m stand ahead. -/
theorem Sym.upto {zs : List Int} {s n v k : Nat} (h : Sym zs s n v k) {m : Nat} (hm : m ≤ 15) : k < (whole zs m).length ↔ n ≤ m := by
  obtain ⟨R, e, hR⟩ := whole_pre zs m (15 - m)
  rw [show m + (15 - m) = 15 by omega] at e
  have hk : (whole zs 15)[k]? = some s := h.at_
  rw [e] at hk
  constructor
  · intro hl
    rw [List.getElem?_append_left hl] at hk
    obtain ⟨n', h1, _, h3⟩ := whole_mem (List.mem_of_getElem? hk)
    have := h.len.symm.trans h1
    injection this with this
    omega
  · intro hn
    by_cases hl : k < (whole zs m).length
    · exact hl
    · rw [List.getElem?_append_right (by omega)] at hk
      obtain ⟨n', h1, h2⟩ := hR s (List.mem_of_getElem? hk)
      have := h.len.symm.trans h1
      injection this with this
      omega
theorem Sym.one_val {zs : List Int} {s n v k s' n' v' k' : Nat} (h : Sym zs s n v k) (h' : Sym zs s' n' v' k') (e : s = s') : n = n' ∧ v = v' := by
  subst e
  have h1 := h.len.symm.trans h'.len
  have h2 := h.val.symm.trans h'.val
  injection h1 with h1
  injection h2 with h2
  omega
theorem Sym.at_le {zs : List Int} {s n v k : Nat} (h : Sym zs s n v k) {m : Nat} (hm : isMax zs (m : Int)) : n ≤ m := by
  have := hm.1 _ (List.mem_of_getElem? h.len)
  omega
/-- No code of n bits is what bits begin with. -/
def noHit (zs : List Int) (x n : Nat) : Prop := ∀ s v k, Sym zs s n v k → x ≠ v
/-- What Take answers where bits are left, of codes up to m bits: a symbol, or why there is none, and how far it goes on. -/
def TakeR (zs : List Int) (m : Nat) (U : List Bool) (s e : Int) (on : Nat) : Prop :=
  (∃ t v k : Nat, Sym zs t on v k ∧ on ≤ U.length ∧ hiN (U.take on) = v ∧ s = (t : Int) ∧ e = 0) ∨
  (s = 0 ∧ on = 0 ∧ (∀ n, 1 ≤ n → n ≤ m → n ≤ U.length → noHit zs (hiN (U.take n)) n) ∧ e = if U.length < m then 2 else 13)
theorem take_back {zs : List Int} {m : Nat} (hm : isMax zs (m : Int)) (hr : caR zs = true) {U R : List Bool} {t n v k : Nat} (hy : Sym zs t n v k) (hU : U = codeB v n ++ R) {s e : Int} {on : Nat} (h : TakeR zs m U s e on) : s = (t : Int) ∧ e = 0 ∧ on = n := by
  have hl : n ≤ U.length := by rw [hU, List.length_append, codeB_len]; omega
  have ht : U.take n = codeB v n := by rw [hU, List.take_append_of_le_length (by rw [codeB_len]; omega), List.take_of_length_le (by rw [codeB_len]; omega)]
  have hv : hiN (U.take n) = v := by rw [ht, hiN_code (hy.lt hr)]
  rcases h with ⟨t', v', k', hy', hl', hv', rfl, rfl⟩ | ⟨_, _, hno, _⟩
  · have hst : t' = t := by
      rcases Nat.le_total on n with hle | hle
      · refine hy'.apart hy hle ?_
        have := hiN_take (U := U) (n := on) (n - on) (by omega)
        rw [show on + (n - on) = n by omega, hv, hv'] at this
        exact this
      · refine (hy.apart hy' hle ?_).symm
        have := hiN_take (U := U) (n := n) (on - n) (by omega)
        rw [show n + (on - n) = on by omega, hv, hv'] at this
        exact this
    subst hst
    exact ⟨rfl, rfl, (hy'.one_val hy rfl).1⟩
  · exact absurd hv (hno n hy.one (hy.at_le hm) hl t v k hy)
theorem cover {zs : List Int} {x : Nat} (j : Nat) (hj : j ≤ (ordL zs).length) (h : x < osum zs ((ordL zs).take j)) : ∃ s n v k, Sym zs s n v k ∧ v * 2 ^ (15 - n) ≤ x ∧ x < (v + 1) * 2 ^ (15 - n) := by
  induction j with
  | zero => exact absurd h (by simp [osum])
  | succ j ih =>
    rcases Nat.lt_or_ge x (osum zs ((ordL zs).take j)) with h1 | h1
    · exact ih (Nat.le_of_succ_le hj) h1
    · obtain ⟨s, hs⟩ : ∃ s, (ordL zs)[j]? = some s := ⟨_, List.getElem?_eq_getElem hj⟩
      obtain ⟨n, v, hy⟩ := sym_at hs
      refine ⟨s, n, v, j, hy, by rw [hy.sum]; exact h1, ?_⟩
      rw [Nat.succ_mul, hy.sum, ← osum_step hy.at_ hy.len hy.one]
      exact h
/-- Of codes that leave nothing over any fifteen bits begin with one. -/
theorem take_full {zs : List Int} {m : Nat} (hm : isMax zs (m : Int)) (hr : caR zs = true) (hw : wsum zs = 32768) {U : List Bool} (hU : 15 ≤ U.length) {s e : Int} {on : Nat} (h : TakeR zs m U s e on) : e = 0 := by
  rcases h with ⟨t', v', k', hy', hl', hv', rfl, rfl⟩ | ⟨_, _, hno, _⟩
  · rfl
  · exfalso
    have hx := hiN_lt (U.take 15)
    rw [List.length_take, Nat.min_eq_left hU, show (2 : Nat) ^ 15 = 32768 by decide] at hx
    obtain ⟨t, n, v, k, hy, h1, h2⟩ := cover (zs := zs) (x := hiN (U.take 15)) _ (Nat.le_refl _) (by rw [List.take_length, osum_all (caR_len hr).2, hw]; exact hx)
    have hf := hy.few
    refine hno n hy.one (hy.at_le hm) (by omega) t v k hy ?_
    have h3 := hiN_take (U := U) (n := n) (15 - n) (by omega)
    rw [show n + (15 - n) = 15 by omega] at h3
    rw [← h3]
    exact Nat.div_eq_of_lt_le h1 h2
/-- Behind a code that is less no shorter place's is the one. -/
theorem noHit_less {zs : List Int} {n s v k x : Nat} (h : Sym zs s n v k) (hx : v < x) (hab : ∀ j s' v', k < j → Sym zs s' n v' j → x ≠ v') : noHit zs x n := by
  intro s' v' j hy e
  rcases Nat.lt_trichotomy j k with hj | hj | hj
  · have hp := hy.place h hj
    have h3 := Nat.le_of_mul_le_mul_right hp (Nat.two_pow_pos (15 - n))
    omega
  · subst hj
    have := h.at_.symm.trans hy.at_
    injection this with this
    have := (h.one_val hy this).2
    omega
  · exact hab j s' v' hj hy e
end Go.Proofs.Ytgbbdgoleiolhaa
