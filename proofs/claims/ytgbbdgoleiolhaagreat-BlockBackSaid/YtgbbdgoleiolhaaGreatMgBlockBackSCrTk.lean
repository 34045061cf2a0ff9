/- Layer 8, plainly: the symbol that bits begin with. -/
import Derived.Test.YtgbbdgoleiolhaaGreatCrPl
import Derived.Test.YtgbbdgoleiolhaaGreatMgBlockBack15
namespace Go.Proofs.YtgbbdgoleiolhaaGreat
open Go.RowKit BitsP

/-- Bits as a number, the highest one first. -/
def hiN (L : List Bool) : Nat := num L.reverse
theorem hiN_snoc (L : List Bool) (b : Bool) : hiN (L ++ [b]) = bit b + 2 * hiN L := by
  unfold hiN
  rw [List.reverse_append]
  rfl
theorem hiN_lt (L : List Bool) : hiN L < 2 ^ L.length := by
  have h := num_lt L.reverse
  rw [List.length_reverse, p2_pow] at h
  exact h
theorem hiN_code {v n : Nat} (h : v < 2 ^ n) : hiN (codeB v n) = v := by
  unfold hiN codeB
  rw [List.reverse_reverse, num_bitsOf, p2_pow, Nat.mod_eq_of_lt h]
theorem hiN_up {U : List Bool} {n : Nat} {b : Bool} (hb : U[n]? = some b) : hiN (U.take (n + 1)) = bit b + 2 * hiN (U.take n) := by
  rw [take_snoc' hb, hiN_snoc]
theorem hiN_take {U : List Bool} {n : Nat} : ∀ d, n + d ≤ U.length → hiN (U.take (n + d)) / 2 ^ d = hiN (U.take n)
  | 0, _ => by rw [Nat.add_zero, Nat.pow_zero, Nat.div_one]
  | d + 1, h => by
    obtain ⟨b, hb⟩ : ∃ b, U[n + d]? = some b := ⟨_, List.getElem?_eq_getElem (by omega)⟩
    have h2 : (bit b + 2 * hiN (U.take (n + d))) / 2 = hiN (U.take (n + d)) := by have := bit_le b; omega
    rw [show n + (d + 1) = n + d + 1 by omega, hiN_up hb, Nat.pow_succ, Nat.mul_comm (2 ^ d) 2, ← Nat.div_div_eq_div_mul, h2, hiN_take d (by omega)]
theorem whole_pre (zs : List Int) (n : Nat) : ∀ d, ∃ R, whole zs (n + d) = whole zs n ++ R ∧ ∀ s ∈ R, ∃ m : Nat, zs[s]? = some (m : Int) ∧ n < m
  | 0 => ⟨[], by simp, by simp⟩
  | d + 1 => by
    obtain ⟨R, h, hR⟩ := whole_pre zs n d
    refine ⟨R ++ ixs zs (n + d + 1) zs.length, by rw [show n + (d + 1) = n + d + 1 by omega, whole, h, List.append_assoc], fun s hs => ?_⟩
    rcases List.mem_append.1 hs with h1 | h1
    · exact hR s h1
    · simp only [ixs, List.mem_filter, decide_eq_true_eq] at h1
      exact ⟨n + d + 1, h1.2, by omega⟩
/-- The symbols of a length up to m stand ahead. -/
theorem Sym.upto {zs : List Int} {s n v k : Nat} (h : Sym zs s n v k) {m : Nat} (hm : m ≤ 15) : k < (whole zs m).length ↔ n ≤ m := by
  obtain ⟨R, e, hR⟩ := whole_pre zs m (15 - m)
  rw [show m + (15 - m) = 15 by omega] at e
  have hk : (whole zs 15)[k]? = some s := h.at_
  rw [e] at hk
  constructor
  · intro hl
    rw [List.getElem?_append_left hl] at hk
    obtain ⟨n', h1, _, h3⟩ := whole_mem (List.mem_of_getElem? hk)
    have := h.len.symm.trans h1
    injection this with this
    omega
  · intro hn
    by_cases hl : k < (whole zs m).length
    · exact hl
    · rw [List.getElem?_append_right (by omega)] at hk
      obtain ⟨n', h1, h2⟩ := hR s (List.mem_of_getElem? hk)
      have := h.len.symm.trans h1
      injection this with this
      omega
theorem Sym.one_val {zs : List Int} {s n v k s' n' v' k' : Nat} (h : Sym zs s n v k) (h' : Sym zs s' n' v' k') (e : s = s') : n = n' ∧ v = v' := by
  subst e
  have h1 := h.len.symm.trans h'.len
  have h2 := h.val.symm.trans h'.val
  injection h1 with h1
  injection h2 with h2
  omega
theorem Sym.at_le {zs : List Int} {s n v k : Nat} (h : Sym zs s n v k) {m : Nat} (hm : isMax zs (m : Int)) : n ≤ m := by
  have := hm.1 _ (List.mem_of_getElem? h.len)
  omega
/-- No code of n bits is what bits begin with. -/
def noHit (zs : List Int) (x n : Nat) : Prop := ∀ s v k, Sym zs s n v k → x ≠ v
/-- What Take answers where bits are left, of codes up to m bits: a symbol, or why there is none, and how far it goes on. -/
def TakeR (zs : List Int) (m : Nat) (U : List Bool) (s e : Int) (on : Nat) : Prop :=
  (∃ t v k : Nat, Sym zs t on v k ∧ on ≤ U.length ∧ hiN (U.take on) = v ∧ s = (t : Int) ∧ e = 0) ∨
  (s = 0 ∧ on = 0 ∧ (∀ n, 1 ≤ n → n ≤ m → n ≤ U.length → noHit zs (hiN (U.take n)) n) ∧ e = if U.length < m then 2 else 13)
theorem take_back {zs : List Int} {m : Nat} (hm : isMax zs (m : Int)) (hr : caR zs = true) {U R : List Bool} {t n v k : Nat} (hy : Sym zs t n v k) (hU : U = codeB v n ++ R) {s e : Int} {on : Nat} (h : TakeR zs m U s e on) : s = (t : Int) ∧ e = 0 ∧ on = n := by
  have hl : n ≤ U.length := by rw [hU, List.length_append, codeB_len]; omega
  have ht : U.take n = codeB v n := by rw [hU, List.take_append_of_le_length (by rw [codeB_len]; omega), List.take_of_length_le (by rw [codeB_len]; omega)]
  have hv : hiN (U.take n) = v := by rw [ht, hiN_code (hy.lt hr)]
  rcases h with ⟨t', v', k', hy', hl', hv', rfl, rfl⟩ | ⟨_, _, hno, _⟩
  · have hst : t' = t := by
      rcases Nat.le_total on n with hle | hle
      · refine hy'.apart hy hle ?_
        have := hiN_take (U := U) (n := on) (n - on) (by omega)
        rw [show on + (n - on) = n by omega, hv, hv'] at this
        exact this
      · refine (hy.apart hy' hle ?_).symm
        have := hiN_take (U := U) (n := n) (on - n) (by omega)
        rw [show n + (on - n) = on by omega, hv, hv'] at this
        exact this
    subst hst
    exact ⟨rfl, rfl, (hy'.one_val hy rfl).1⟩
  · exact absurd hv (hno n hy.one (hy.at_le hm) hl t v k hy)
theorem cover {zs : List Int} {x : Nat} (j : Nat) (hj : j ≤ (ordL zs).length) (h : x < osum zs ((ordL zs).take j)) : ∃ s n v k, Sym zs s n v k ∧ v * 2 ^ (15 - n) ≤ x ∧ x < (v + 1) * 2 ^ (15 - n) := by
  induction j with
  | zero => exact absurd h (by simp [osum])
  | succ j ih =>
    rcases Nat.lt_or_ge x (osum zs ((ordL zs).take j)) with h1 | h1
    · exact ih (Nat.le_of_succ_le hj) h1
    · obtain ⟨s, hs⟩ : ∃ s, (ordL zs)[j]? = some s := ⟨_, List.getElem?_eq_getElem hj⟩
      obtain ⟨n, v, hy⟩ := sym_at hs
      refine ⟨s, n, v, j, hy, by rw [hy.sum]; exact h1, ?_⟩
      rw [Nat.succ_mul, hy.sum, ← osum_step hy.at_ hy.len hy.one]
      exact h
/-- Of codes that leave nothing over any fifteen bits begin with one. -/
theorem take_full {zs : List Int} {m : Nat} (hm : isMax zs (m : Int)) (hr : caR zs = true) (hw : wsum zs = 32768) {U : List Bool} (hU : 15 ≤ U.length) {s e : Int} {on : Nat} (h : TakeR zs m U s e on) : e = 0 := by
  rcases h with ⟨t', v', k', hy', hl', hv', rfl, rfl⟩ | ⟨_, _, hno, _⟩
  · rfl
  · exfalso
    have hx := hiN_lt (U.take 15)
    rw [List.length_take, Nat.min_eq_left hU, show (2 : Nat) ^ 15 = 32768 by decide] at hx
    obtain ⟨t, n, v, k, hy, h1, h2⟩ := cover (zs := zs) (x := hiN (U.take 15)) _ (Nat.le_refl _) (by rw [List.take_length, osum_all (caR_len hr).2, hw]; exact hx)
    have hf := hy.few
    refine hno n hy.one (hy.at_le hm) (by omega) t v k hy ?_
    have h3 := hiN_take (U := U) (n := n) (15 - n) (by omega)
    rw [show n + (15 - n) = 15 by omega] at h3
    rw [← h3]
    exact Nat.div_eq_of_lt_le h1 h2
/-- Behind a code that is less no shorter place's is the one. -/
theorem noHit_less {zs : List Int} {n s v k x : Nat} (h : Sym zs s n v k) (hx : v < x) (hab : ∀ j s' v', k < j → Sym zs s' n v' j → x ≠ v') : noHit zs x n := by
  intro s' v' j hy e
  rcases Nat.lt_trichotomy j k with hj | hj | hj
  · have hp := hy.place h hj
    have h3 := Nat.le_of_mul_le_mul_right hp (Nat.two_pow_pos (15 - n))
    omega
  · subst hj
    have := h.at_.symm.trans hy.at_
    injection this with this
    have := (h.one_val hy this).2
    omega
  · exact hab j s' v' hj hy e
end Go.Proofs.YtgbbdgoleiolhaaGreat
