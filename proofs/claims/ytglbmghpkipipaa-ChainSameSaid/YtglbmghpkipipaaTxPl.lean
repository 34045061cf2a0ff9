/- Layer 11, plainly: what tokens are expanded to; the tokens of bytes are expanded to these. -/
import Derived.Test.YtglbmghpkipipaaTkPl
namespace Go.Proofs.Ytglbmghpkipipaa
open Go.RowKit

/-- A token as it comes in: its byte, and any length and distance. -/
abbrev Ti := UInt8 × Int × Int
def okT (t : Ti) : Bool := if t.2.1 = 0 then decide (t.2.2 = 0) else decide (3 ≤ t.2.1 ∧ t.2.1 ≤ 258 ∧ 1 ≤ t.2.2 ∧ t.2.2 ≤ 32768 ∧ t.1 = 0)
def szT (t : Ti) : Int := if t.2.1 < 1 then 1 else t.2.1
def copyN (d : Nat) : Nat → List UInt8 → List UInt8
  | 0, out => out
  | k + 1, out => copyN d k out ++ [(copyN d k out).getD ((copyN d k out).length - d) 0]
theorem copyN_len (d : Nat) (out : List UInt8) : ∀ k, (copyN d k out).length = out.length + k
  | 0 => rfl
  | k + 1 => by rw [copyN, List.length_append, copyN_len d out k]; rfl
def putT (t : Ti) (out : List UInt8) : List UInt8 := if t.2.1 = 0 then out ++ [t.1] else copyN t.2.2.toNat t.2.1.toNat out
theorem okT_cases {t : Ti} (h : okT t = true) : (t.2.1 = 0 ∧ t.2.2 = 0) ∨ (3 ≤ t.2.1 ∧ t.2.1 ≤ 258 ∧ 1 ≤ t.2.2 ∧ t.2.2 ≤ 32768 ∧ t.1 = 0) := by
  unfold okT at h
  split at h
  · exact .inl ⟨by assumption, by simpa using h⟩
  · exact .inr (by simpa using h)
theorem szT_pos (t : Ti) : 1 ≤ szT t := by unfold szT; split <;> omega
theorem szT_le {t : Ti} (h : okT t = true) : szT t ≤ 258 := by
  unfold szT
  rcases okT_cases h with h | h <;> split <;> omega
theorem putT_len {t : Ti} (out : List UInt8) (h : okT t = true) : ((putT t out).length : Int) = (out.length : Int) + szT t := by
  unfold putT szT
  rcases okT_cases h with ⟨h1, _⟩ | h1
  · rw [if_pos h1, if_pos (by omega)]; simp
  · rw [if_neg (by omega), if_neg (by omega), copyN_len]; omega
def expE (most : Int) : List Ti → List UInt8 → Int × List UInt8
  | [], out => (0, out)
  | t :: L, out => if okT t = false ∨ (out.length : Int) < t.2.2 then (3, []) else if most - (out.length : Int) < szT t then (5, []) else expE most L (putT t out)
def sizeE : List Ti → Int → Option Int
  | [], n => some n
  | t :: L, n => if okT t = true ∧ szT t ≤ 1048576 - n then sizeE L (n + szT t) else none
def sumT : List Ti → Int
  | [] => 0
  | t :: L => szT t + sumT L
theorem sumT_snoc (t : Ti) : ∀ L : List Ti, sumT (L ++ [t]) = sumT L + szT t
  | [] => by simp [sumT]
  | u :: L => by rw [List.cons_append, sumT, sumT, sumT_snoc t L]; omega
theorem sizeE_all : ∀ (L : List Ti) (n : Int), 0 ≤ n → n + 258 * (L.length : Int) ≤ 1048576 → sizeE L n = if L.all okT = true then some (n + sumT L) else none
  | [], n, _, _ => by simp [sizeE, sumT]
  | t :: L, n, h0, h => by
    rw [List.length_cons] at h
    rw [sizeE]
    by_cases ht : okT t = true
    · have h1 := szT_le ht
      have h2 := szT_pos t
      rw [if_pos ⟨ht, by push_cast at h; omega⟩, sizeE_all L (n + szT t) (by omega) (by push_cast at h; omega)]
      simp only [List.all_cons, ht, Bool.true_and, sumT]
      split
      · rw [Int.add_assoc]
      · rfl
    · rw [if_neg (fun h => ht h.1), if_neg (by simp [ht])]
/-- What was written is never more than may be. -/
theorem expE_bd {most : Int} {t : Ti} {out : List UInt8} (hok : okT t = true) (h : ¬ most - (out.length : Int) < szT t) : ((putT t out).length : Int) ≤ most := by
  rw [putT_len out hok]; omega
/-- A token of bytes, as it comes in. -/
def ti (t : Tk) : Ti := (t.1, (t.2.1 : Int), (t.2.2 : Int))
theorem ti_sz (t : Tk) : szT (ti t) = (tsz t : Int) := by
  unfold szT ti tsz
  simp only
  split <;> omega
theorem tokAt_cases (bs : List UInt8) (lv : Int) (p : Nat) : tokAt bs lv p = (bs.getD p 0, 0, 0) ∨
    ∃ n d : Nat, tokAt bs lv p = (0, n, d) ∧ 3 ≤ n ∧ n ≤ 258 ∧ 1 ≤ d ∧ d ≤ 32768 ∧ d ≤ p ∧ p + n ≤ bs.length ∧ ∀ i, i < n → bs.getD (p + i) 0 = bs.getD (p + i - d) 0 := by
  unfold tokAt
  split
  · exact .inl rfl
  · rename_i h
    refine .inr ⟨_, _, rfl, ?_⟩
    rcases bestM_of bs (p : Int) (depthN lv) with h0 | ⟨hd, hn⟩
    · exact absurd (.inl (by rw [h0])) h
    · have h3 := lenI_three hd
      have hb := bestM_le bs (p : Int) (depthN lv)
      obtain ⟨_, hc1, hc2, hc3, hc4, _⟩ := cand_of hd
      rw [hn] at hb ⊢
      have hr := lenI_at bs (a := p) (d := (bestM bs (p : Int) (depthN lv)).2) (by omega) hc2 hc3 (by omega)
      rw [hr] at h3 hb ⊢
      have hle := runM_le bs p (bestM bs (p : Int) (depthN lv)).2 (capM bs p) 0
      have hcap : capM bs p ≤ bs.length - p := by unfold capM; omega
      exact ⟨h3, hb, hc2, hc3, by omega, by omega, fun i hi => runM_same bs p _ _ 0 i (Nat.zero_le _) hi⟩
theorem take_snoc {bs : List UInt8} {p : Nat} (h : p < bs.length) : bs.take p ++ [bs.getD p 0] = bs.take (p + 1) := by
  rw [List.take_add_one, List.getD, List.getElem?_eq_getElem h]
  rfl
theorem copyN_take {bs : List UInt8} {p d : Nat} (hd1 : 1 ≤ d) (hd : d ≤ p) : ∀ n, p + n ≤ bs.length → (∀ i, i < n → bs.getD (p + i) 0 = bs.getD (p + i - d) 0) → copyN d n (bs.take p) = bs.take (p + n)
  | 0, _, _ => rfl
  | n + 1, h, hs => by
    have ih := copyN_take hd1 hd n (by omega) (fun i hi => hs i (by omega))
    have hlen : (bs.take (p + n)).length = p + n := by rw [List.length_take]; omega
    rw [copyN, ih, hlen, show p + (n + 1) = (p + n) + 1 by omega, ← take_snoc (by omega), hs n (by omega)]
    congr 2
    rw [List.getD, List.getD, List.getElem?_take_of_lt (by omega)]
theorem tokAt_ok {bs : List UInt8} {lv : Int} {p : Nat} : okT (ti (tokAt bs lv p)) = true := by
  rcases tokAt_cases bs lv p with h | ⟨n, d, h, h1, h2, h3, h4, _⟩
  · rw [h]; rfl
  · rw [h]
    unfold okT ti
    simp only
    rw [if_neg (by omega)]
    simp
    omega
theorem tokAt_put {bs : List UInt8} {lv : Int} {p : Nat} (hp : p < bs.length) : putT (ti (tokAt bs lv p)) (bs.take p) = bs.take (p + tsz (tokAt bs lv p)) ∧ p + tsz (tokAt bs lv p) ≤ bs.length ∧ (tokAt bs lv p).2.2 ≤ p := by
  rcases tokAt_cases bs lv p with h | ⟨n, d, h, h1, h2, h3, h4, h5, h6, h7⟩
  · rw [h]
    refine ⟨?_, by show p + 1 ≤ _; omega, Nat.zero_le _⟩
    rw [putT, if_pos (by rfl)]
    exact take_snoc hp
  · rw [h]
    have hsz : tsz (0, n, d) = n := by unfold tsz; simp only; omega
    rw [hsz]
    refine ⟨?_, h6, h5⟩
    unfold putT ti
    simp only
    rw [if_neg (by omega), Int.toNat_natCast, Int.toNat_natCast]
    exact copyN_take h3 h5 n h6 h7
theorem toks_ok (bs : List UInt8) (lv : Int) : ∀ (k p : Nat), bs.length - p ≤ k → ((toks bs lv p).map ti).all okT = true
  | 0, p, h => by rw [toks_end (by omega)]; rfl
  | k + 1, p, h => by
    by_cases hp : p < bs.length
    · have h1 := tsz_pos (tokAt bs lv p)
      rw [toks_step hp, List.map_cons, List.all_cons, tokAt_ok, Bool.true_and]
      exact toks_ok bs lv k _ (by omega)
    · rw [toks_end (by omega)]; rfl
theorem toks_size (bs : List UInt8) (lv : Int) (hm : bs.length ≤ 1048576) : ∀ (k p : Nat), bs.length - p ≤ k → p ≤ bs.length → sizeE ((toks bs lv p).map ti) (p : Int) = some (bs.length : Int)
  | 0, p, h, h2 => by rw [toks_end (by omega), show p = bs.length by omega]; rfl
  | k + 1, p, h, h2 => by
    by_cases hp : p < bs.length
    · obtain ⟨_, h3, _⟩ := tokAt_put (lv := lv) hp
      have h1 := tsz_pos (tokAt bs lv p)
      rw [toks_step hp, List.map_cons, sizeE, ti_sz, if_pos ⟨tokAt_ok, by omega⟩]
      rw [show (p : Int) + ((tsz (tokAt bs lv p) : Nat) : Int) = ((p + tsz (tokAt bs lv p) : Nat) : Int) by push_cast; rfl]
      exact toks_size bs lv hm k _ (by omega) h3
    · rw [toks_end (by omega), show p = bs.length by omega]; rfl
theorem toks_exp (bs : List UInt8) (lv most : Int) : ∀ (k p : Nat), bs.length - p ≤ k → p ≤ bs.length → expE most ((toks bs lv p).map ti) (bs.take p) = if (bs.length : Int) ≤ most ∨ bs.length = p then (0, bs) else (5, [])
  | 0, p, h, h2 => by rw [toks_end (by omega), if_pos (.inr (by omega)), show p = bs.length by omega, List.take_length]; rfl
  | k + 1, p, h, h2 => by
    by_cases hp : p < bs.length
    · obtain ⟨h4, h3, h5⟩ := tokAt_put (lv := lv) hp
      have h1 := tsz_pos (tokAt bs lv p)
      have hlen : (bs.take p).length = p := by rw [List.length_take]; omega
      rw [toks_step hp, List.map_cons, expE, ti_sz, hlen, if_neg]
      · by_cases hs : most - (p : Int) < ((tsz (tokAt bs lv p) : Nat) : Int)
        · rw [if_pos hs, if_neg (by omega)]
        · rw [if_neg hs, h4, toks_exp bs lv most k _ (by omega) h3]
          by_cases hq : (bs.length : Int) ≤ most
          · rw [if_pos (.inl hq), if_pos (.inl hq)]
          · rw [if_neg (by omega), if_neg (by omega)]
      · rw [tokAt_ok]
        simp only [Bool.true_eq_false, false_or, ti]
        omega
    · rw [toks_end (by omega), if_pos (.inr (by omega)), show p = bs.length by omega, List.take_length]; rfl
end Go.Proofs.Ytglbmghpkipipaa
