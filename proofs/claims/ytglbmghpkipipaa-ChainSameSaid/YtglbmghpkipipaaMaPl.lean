/- Layer 10, plainly: how long a match is, the candidates, the best one. -/
import Derived.Test.YtglbmghpkipipaaCells
namespace Go.Proofs.Ytglbmghpkipipaa
open Go.RowKit

/-- From n equal bytes on: how many there are, k looked at. -/
def runM (bs : List UInt8) (at_ d : Nat) : Nat → Nat → Nat
  | 0, n => n
  | k + 1, n => if bs.getD (at_ + n) 0 = bs.getD (at_ + n - d) 0 then runM bs at_ d k (n + 1) else n
theorem runM_ge (bs : List UInt8) (at_ d : Nat) : ∀ k n, n ≤ runM bs at_ d k n
  | 0, n => Nat.le_refl n
  | k + 1, n => by
    rw [runM]
    split
    · exact Nat.le_trans (Nat.le_succ n) (runM_ge bs at_ d k (n + 1))
    · exact Nat.le_refl n
theorem runM_le (bs : List UInt8) (at_ d : Nat) : ∀ k n, runM bs at_ d k n ≤ n + k
  | 0, n => Nat.le_refl n
  | k + 1, n => by
    rw [runM]
    split
    · exact Nat.le_trans (runM_le bs at_ d k (n + 1)) (by omega)
    · omega
theorem runM_same (bs : List UInt8) (at_ d : Nat) : ∀ k n i, n ≤ i → i < runM bs at_ d k n → bs.getD (at_ + i) 0 = bs.getD (at_ + i - d) 0
  | 0, n, i, h1, h2 => by rw [runM] at h2; omega
  | k + 1, n, i, h1, h2 => by
    rw [runM] at h2
    split at h2
    · rename_i h
      by_cases he : i = n
      · rw [he]; exact h
      · exact runM_same bs at_ d k (n + 1) i (by omega) h2
    · omega
theorem runM_end (bs : List UInt8) (at_ d : Nat) : ∀ k n, runM bs at_ d k n < n + k → bs.getD (at_ + runM bs at_ d k n) 0 ≠ bs.getD (at_ + runM bs at_ d k n - d) 0
  | 0, n, h => by rw [runM] at h; omega
  | k + 1, n, h => by
    rw [runM] at h ⊢
    split
    · rename_i h2
      rw [if_pos h2] at h
      exact runM_end bs at_ d k (n + 1) (by omega)
    · rename_i h2; exact h2
theorem runM_many (bs : List UInt8) (at_ d : Nat) : ∀ k n m, m ≤ n + k → (∀ i, n ≤ i → i < m → bs.getD (at_ + i) 0 = bs.getD (at_ + i - d) 0) → m ≤ runM bs at_ d k n
  | 0, n, m, h1, h2 => by rw [runM]; omega
  | k + 1, n, m, h1, h2 => by
    rw [runM]
    by_cases hm : m ≤ n
    · split
      · exact Nat.le_trans hm (Nat.le_trans (Nat.le_succ n) (runM_ge bs at_ d k (n + 1)))
      · exact hm
    · rw [if_pos (h2 n (Nat.le_refl n) (by omega))]
      exact runM_many bs at_ d k (n + 1) m (by omega) fun i hi => h2 i (by omega)
/-- How far a match at a place may go. -/
def capM (bs : List UInt8) (at_ : Nat) : Nat := min 258 (bs.length - at_)
/-- How long a match is: any place, any distance. -/
def lenI (bs : List UInt8) (a d : Int) : Nat :=
  if 0 ≤ a ∧ a < (bs.length : Int) ∧ 1 ≤ d ∧ d ≤ 32768 ∧ d ≤ a then runM bs a.toNat d.toNat (capM bs a.toNat) 0 else 0
theorem lenI_le (bs : List UInt8) (a d : Int) : lenI bs a d ≤ 258 := by
  unfold lenI
  split
  · have := runM_le bs a.toNat d.toNat (capM bs a.toNat) 0
    unfold capM at this ⊢
    omega
  · omega
theorem lenI_no {bs : List UInt8} {a d : Int} (h : ¬ (0 ≤ a ∧ a < (bs.length : Int) ∧ 1 ≤ d ∧ d ≤ 32768 ∧ d ≤ a)) : lenI bs a d = 0 := if_neg h
theorem lenI_at (bs : List UInt8) {a d : Nat} (h0 : a < bs.length) (h1 : 1 ≤ d) (h2 : d ≤ 32768) (h3 : d ≤ a) : lenI bs (a : Int) (d : Int) = runM bs a d (capM bs a) 0 := by
  rw [lenI, if_pos (by omega)]
  simp
/-- Three bytes are alike. -/
def three (bs : List UInt8) (a d : Nat) : Bool := bs.getD (a - d) 0 == bs.getD a 0 && bs.getD (a - d + 1) 0 == bs.getD (a + 1) 0 && bs.getD (a - d + 2) 0 == bs.getD (a + 2) 0
/-- The first m distances' candidates. -/
def candN (bs : List UInt8) (a m : Nat) : List Nat := ((List.range m).map (· + 1)).filter (three bs a)
def cands (bs : List UInt8) (a : Int) : List Nat := if 0 ≤ a ∧ a + 3 ≤ (bs.length : Int) then candN bs a.toNat (min a.toNat 32768) else []
theorem candN_yes {bs : List UInt8} {a m : Nat} (h : three bs a (m + 1) = true) : candN bs a (m + 1) = candN bs a m ++ [m + 1] := by
  unfold candN
  rw [List.range_succ, List.map_append, List.filter_append]
  congr 1
  show (match three bs a (m + 1) with | true => [m + 1] | false => []) = _
  rw [h]
theorem candN_no {bs : List UInt8} {a m : Nat} (h : three bs a (m + 1) = false) : candN bs a (m + 1) = candN bs a m := by
  unfold candN
  rw [List.range_succ, List.map_append, List.filter_append]
  show _ ++ (match three bs a (m + 1) with | true => [m + 1] | false => []) = _
  rw [h, List.append_nil]
theorem candN_pre (bs : List UInt8) (a : Nat) {m k : Nat} (h : m ≤ k) : candN bs a m <+: candN bs a k := by
  induction k with
  | zero => rw [show m = 0 by omega]; exact List.prefix_refl _
  | succ k ih =>
    by_cases he : m = k + 1
    · rw [he]; exact List.prefix_refl _
    · have := ih (by omega)
      cases hc : three bs a (k + 1)
      · rw [candN_no hc]; exact this
      · rw [candN_yes hc]; exact this.trans (List.prefix_append _ _)
theorem candN_len (bs : List UInt8) (a m : Nat) : (candN bs a m).length ≤ m := by
  unfold candN
  exact Nat.le_trans (List.length_filter_le _ _) (by simp)
theorem cands_len (bs : List UInt8) (a : Int) : (cands bs a).length ≤ 32768 := by
  unfold cands
  split
  · exact Nat.le_trans (candN_len _ _ _) (Nat.min_le_right _ _)
  · simp
theorem cand_of {bs : List UInt8} {a : Int} {d : Nat} (h : d ∈ cands bs a) : 0 ≤ a ∧ a + 3 ≤ (bs.length : Int) ∧ 1 ≤ d ∧ d ≤ 32768 ∧ (d : Int) ≤ a ∧ three bs a.toNat d = true := by
  unfold cands at h
  split at h
  · unfold candN at h
    rw [List.mem_filter, List.mem_map] at h
    obtain ⟨⟨x, hx, rfl⟩, ht⟩ := h
    rw [List.mem_range] at hx
    refine ⟨by omega, by omega, by omega, by omega, by omega, ht⟩
  · simp at h
theorem lenI_three {bs : List UInt8} {a : Int} {d : Nat} (h : d ∈ cands bs a) : 3 ≤ lenI bs a d := by
  obtain ⟨h0, h1, h2, h3, h4, h5⟩ := cand_of h
  obtain ⟨n, rfl⟩ := Int.eq_ofNat_of_zero_le h0
  rw [lenI_at bs (by omega) h2 h3 (by omega)]
  unfold three at h5
  rw [Bool.and_eq_true, Bool.and_eq_true, beq_iff_eq, beq_iff_eq, beq_iff_eq, Int.toNat_natCast] at h5
  refine runM_many bs n d _ 0 3 (by unfold capM; omega) fun i _ hi => ?_
  rcases (show i = 0 ∨ i = 1 ∨ i = 2 by omega) with rfl | rfl | rfl
  · exact h5.1.1.symm
  · rw [show n + 1 - d = n - d + 1 by omega]; exact h5.1.2.symm
  · rw [show n + 2 - d = n - d + 2 by omega]; exact h5.2.symm

/-- One candidate more. -/
def stepM (bs : List UInt8) (a : Int) (p : Nat × Nat) (x : Nat) : Nat × Nat := if p.1 < lenI bs a (x : Int) then (lenI bs a (x : Int), x) else p
def foldM (bs : List UInt8) (a : Int) (xs : List Nat) : Nat × Nat := xs.foldl (stepM bs a) (0, 0)
/-- The best match: of the first candidates, as many as the depth. -/
def bestM (bs : List UInt8) (a depth : Int) : Nat × Nat := foldM bs a ((cands bs a).take depth.toNat)
theorem foldM_snoc (bs : List UInt8) (a : Int) (xs : List Nat) (x : Nat) : foldM bs a (xs ++ [x]) = stepM bs a (foldM bs a xs) x := by
  unfold foldM
  rw [List.foldl_append]
  rfl
theorem foldl_ge (bs : List UInt8) (a : Int) : ∀ (xs : List Nat) (p : Nat × Nat), p.1 ≤ (xs.foldl (stepM bs a) p).1
  | [], _ => Nat.le_refl _
  | x :: xs, p => by
    rw [List.foldl_cons]
    refine Nat.le_trans ?_ (foldl_ge bs a xs _)
    unfold stepM
    split
    · show p.1 ≤ lenI bs a x; omega
    · exact Nat.le_refl _
theorem foldl_most (bs : List UInt8) (a : Int) : ∀ (xs : List Nat) (p : Nat × Nat), p.1 = 258 → xs.foldl (stepM bs a) p = p
  | [], _, _ => rfl
  | x :: xs, p, h => by
    rw [List.foldl_cons, stepM, if_neg (by have := lenI_le bs a x; omega)]
    exact foldl_most bs a xs p h
theorem foldM_of {bs : List UInt8} {a : Int} (xs : List Nat) (h : ∀ x ∈ xs, x ∈ cands bs a) : foldM bs a xs = (0, 0) ∨ ((foldM bs a xs).2 ∈ cands bs a ∧ (foldM bs a xs).1 = lenI bs a ((foldM bs a xs).2 : Nat)) := by
  have go : ∀ (xs : List Nat) (p : Nat × Nat), (∀ x ∈ xs, x ∈ cands bs a) → (p = (0, 0) ∨ (p.2 ∈ cands bs a ∧ p.1 = lenI bs a (p.2 : Nat))) → (xs.foldl (stepM bs a) p = (0, 0) ∨ ((xs.foldl (stepM bs a) p).2 ∈ cands bs a ∧ (xs.foldl (stepM bs a) p).1 = lenI bs a ((xs.foldl (stepM bs a) p).2 : Nat))) := by
    intro xs
    induction xs with
    | nil => exact fun p _ hp => hp
    | cons x xs ih =>
      intro p hx hp
      rw [List.foldl_cons]
      refine ih _ (fun y hy => hx y (List.mem_cons_of_mem _ hy)) ?_
      unfold stepM
      split
      · exact .inr ⟨hx x (by simp), rfl⟩
      · exact hp
  exact go xs (0, 0) h (.inl rfl)
theorem bestM_of (bs : List UInt8) (a depth : Int) : bestM bs a depth = (0, 0) ∨ ((bestM bs a depth).2 ∈ cands bs a ∧ (bestM bs a depth).1 = lenI bs a ((bestM bs a depth).2 : Nat)) :=
  foldM_of _ fun _ hx => List.mem_of_mem_take hx
theorem bestM_mono (bs : List UInt8) (a : Int) {x y : Int} (h : x ≤ y) : (bestM bs a x).1 ≤ (bestM bs a y).1 := by
  unfold bestM
  obtain ⟨r, hr⟩ : (cands bs a).take x.toNat <+: (cands bs a).take y.toNat := List.take_prefix_take_left (by omega)
  unfold foldM
  rw [← hr, List.foldl_append]
  exact foldl_ge bs a r _
/-- Where the loop ends. -/
theorem bestM_end {bs : List UInt8} {a depth : Int} {pre : List Nat} (hp : pre <+: cands bs a) (hd : (pre.length : Int) ≤ depth) (he : pre = cands bs a ∨ (pre.length : Int) = depth ∨ (foldM bs a pre).1 = 258) : foldM bs a pre = bestM bs a depth := by
  unfold bestM
  obtain ⟨r, hr⟩ := hp
  rw [← hr, List.take_append]
  rw [List.take_of_length_le (by omega)]
  rcases he with he | he | he
  · have : r = [] := by
      have h := congrArg List.length hr
      rw [List.length_append, he] at h
      exact List.length_eq_zero_iff.1 (by omega)
    rw [this, List.take_nil, List.append_nil]
  · rw [show depth.toNat - pre.length = 0 by omega, List.take_zero, List.append_nil]
  · unfold foldM at he ⊢
    rw [List.foldl_append, foldl_most bs a _ _ he]
theorem bestM_le (bs : List UInt8) (a depth : Int) : (bestM bs a depth).1 ≤ 258 := by
  rcases bestM_of bs a depth with h | ⟨_, h⟩
  · rw [h]; omega
  · rw [h]; exact lenI_le _ _ _
end Go.Proofs.Ytglbmghpkipipaa
