/- Layer 14, plainly: the pieces of bytes. -/
import Derived.Test.YtnccbnadfgilaaaKRead
namespace Go.Proofs.Ytnccbnadfgilaaa
open FieldP

/-- The pieces that bytes begin with, and why there are no more: 0, the end stands where they end; 2, bytes lack; 3, there are more. k: rounds. -/
def pcL : Nat → List UInt8 → List (List UInt8) × Int
  | 0, _ => ([], 2)
  | k + 1, R => if R.length < 2 then ([], 2) else if val (R.take 2) = 0 then ([], if R.length = 2 then 0 else 3) else if R.length < 2 + val (R.take 2) then ([], 2)
      else ((R.drop 2).take (val (R.take 2)) :: (pcL k (R.drop (2 + val (R.take 2)))).1, (pcL k (R.drop (2 + val (R.take 2)))).2)
def pcA (bs : List UInt8) : List (List UInt8) × Int := pcL (bs.length + 1) bs
theorem pcL_e : ∀ (k : Nat) (R : List UInt8), (pcL k R).2 = 0 ∨ (pcL k R).2 = 2 ∨ (pcL k R).2 = 3
  | 0, _ => .inr (.inl rfl)
  | k + 1, R => by
    unfold pcL
    split
    · exact .inr (.inl rfl)
    · split
      · split
        · exact .inl rfl
        · exact .inr (.inr rfl)
      · split
        · exact .inr (.inl rfl)
        · exact pcL_e k _
theorem pcL_short {k : Nat} {R : List UInt8} (h : R.length < 2) : pcL (k + 1) R = ([], 2) := by unfold pcL; rw [if_pos h]
theorem pcL_end {k : Nat} {R : List UInt8} (h : ¬ R.length < 2) (h0 : val (R.take 2) = 0) : pcL (k + 1) R = ([], if R.length = 2 then 0 else 3) := by unfold pcL; rw [if_neg h, if_pos h0]
theorem pcL_long {k : Nat} {R : List UInt8} (h : ¬ R.length < 2) (h0 : val (R.take 2) ≠ 0) (h1 : R.length < 2 + val (R.take 2)) : pcL (k + 1) R = ([], 2) := by unfold pcL; rw [if_neg h, if_neg h0, if_pos h1]
theorem pcL_step {k : Nat} {R : List UInt8} (h : ¬ R.length < 2) (h0 : val (R.take 2) ≠ 0) (h1 : ¬ R.length < 2 + val (R.take 2)) :
    pcL (k + 1) R = ((R.drop 2).take (val (R.take 2)) :: (pcL k (R.drop (2 + val (R.take 2)))).1, (pcL k (R.drop (2 + val (R.take 2)))).2) := by
  rw [pcL, if_neg h, if_neg h0, if_neg h1]
/-- How a reader stands where pieces ended so. -/
def FinP (l : Nat) (st : RSt) (e : Int) : Prop := (st.bad = true ∧ e = 2) ∨ (st.bad = false ∧ st.p = l ∧ e = 0) ∨ (st.bad = false ∧ st.p < l ∧ e = 3)
/-- What a round reads: nothing more, and how the reader stands; or a piece. -/
theorem pc_round {bs : List UInt8} {st : RSt} {k : Nat} (hb : st.bad = false) (hp : st.p ≤ bs.length) {n1 : Nat} {s1 s2 : RSt} {r : List UInt8} (h1 : st.num bs 2 = (n1, s1)) (h2 : s1.row bs n1 = (r, s2)) :
    (r = [] ∧ (pcL (k + 1) (bs.drop st.p)).1 = [] ∧ FinP bs.length s2 (pcL (k + 1) (bs.drop st.p)).2) ∨
    (r ≠ [] ∧ s2.bad = false ∧ st.p + 2 + r.length = s2.p ∧ s2.p ≤ bs.length ∧ pcL (k + 1) (bs.drop st.p) = (r :: (pcL k (bs.drop s2.p)).1, (pcL k (bs.drop s2.p)).2)) := by
  obtain ⟨p, bad⟩ := st
  dsimp only at hb hp
  subst hb
  have hl : (bs.drop p).length = bs.length - p := List.length_drop
  by_cases hs : p + 2 ≤ bs.length
  · simp only [RSt.num, Bool.false_eq_true, if_false, hs, if_true, Prod.mk.injEq] at h1
    obtain ⟨h1, rfl⟩ := h1
    have hshort : ¬ (bs.drop p).length < 2 := by omega
    by_cases h0 : n1 = 0
    · left
      have h0' : val ((bs.drop p).take 2) = 0 := h1.trans h0
      simp only [RSt.row, Bool.false_eq_true, if_false, h0, Nat.add_zero, hs, if_true, Prod.mk.injEq, List.take_zero] at h2
      obtain ⟨rfl, rfl⟩ := h2
      rw [pcL_end hshort h0']
      refine ⟨rfl, rfl, ?_⟩
      show FinP _ _ (if _ then _ else _)
      by_cases he : (bs.drop p).length = 2
      · rw [if_pos he]
        exact .inr (.inl ⟨rfl, by dsimp only; omega, rfl⟩)
      · rw [if_neg he]
        exact .inr (.inr ⟨rfl, by dsimp only; omega, rfl⟩)
    · have h0' : val ((bs.drop p).take 2) ≠ 0 := fun e => h0 (h1.symm.trans e)
      by_cases hlong : p + 2 + n1 ≤ bs.length
      · right
        simp only [RSt.row, Bool.false_eq_true, if_false, hlong, if_true, Prod.mk.injEq] at h2
        obtain ⟨rfl, rfl⟩ := h2
        have hll : ((bs.drop (p + 2)).take n1).length = n1 := by rw [List.length_take, List.length_drop]; omega
        refine ⟨fun e => ?_, rfl, ?_, hlong, ?_⟩
        · rw [e] at hll
          exact h0 hll.symm
        · rw [hll]
        · rw [pcL_step hshort h0' (by rw [h1]; omega), h1, List.drop_drop, List.drop_drop, Nat.add_assoc]
      · left
        simp only [RSt.row, Bool.false_eq_true, if_false, hlong, Prod.mk.injEq] at h2
        obtain ⟨rfl, rfl⟩ := h2
        rw [pcL_long hshort h0' (by rw [h1]; omega)]
        exact ⟨rfl, rfl, .inl ⟨rfl, rfl⟩⟩
  · left
    simp only [RSt.num, Bool.false_eq_true, if_false, hs, Prod.mk.injEq] at h1
    obtain ⟨rfl, rfl⟩ := h1
    simp only [RSt.row, if_true, Prod.mk.injEq] at h2
    obtain ⟨rfl, rfl⟩ := h2
    dsimp only
    rw [pcL_short (show (bs.drop p).length < 2 by omega)]
    exact ⟨rfl, rfl, .inl ⟨rfl, rfl⟩⟩
end Go.Proofs.Ytnccbnadfgilaaa
