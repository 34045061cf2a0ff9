/- Layer 8: may lengths be a code: one symbol alone; the reference's. -/
import Derived.Test.YtbhkaofgljpekaaCa1
namespace Go.Proofs.Ytbhkaofgljpekaa
open Go.RowKit

def zobB (n : Int) : Bool := decide (n = 0) || decide (n = 1)
def aloneB (zs : List Int) : Bool := decide (zs.length ≤ 320) && zs.all zobB && decide (zs.sum = 1)
def caR (zs : List Int) : Bool := decide (zs.length ≤ 320) && zs.all lenB && (decide (wsum zs = 32768) || decide (zs.sum = 1))
theorem sum_snoc {zs : List Int} {k : Nat} {x : Int} (h : zs[k]? = some x) : (zs.take (k + 1)).sum = (zs.take k).sum + x := by
  rw [take_snoc' h]
  simp
theorem sum_bd {zs : List Int} (h : ∀ x ∈ zs, lenB x = true) : 0 ≤ zs.sum ∧ zs.sum ≤ zs.length * 15 := by
  induction zs with
  | nil => exact ⟨Int.le_refl _, Int.le_refl _⟩
  | cons x l ih =>
    have h1 := lenB_yes (h x (by simp))
    have h2 := ih (fun y hy => h y (by simp [hy]))
    rw [List.sum_cons, List.length_cons]
    omega
theorem mem_of_upto {zs : List Int} {k : Nat} {f : Int → Bool} (h : ∀ j x, j < k → zs[j]? = some x → f x = true) : ∀ x ∈ zs.take k, f x = true := fun x hx => by
  obtain ⟨j, hj⟩ := List.mem_iff_getElem?.1 hx
  rw [List.getElem?_take] at hj
  split at hj
  · rename_i hk; exact h j x hk hj
  · cases hj
/-- Just one symbol, of length 1: all are 0 or 1, and their sum is 1. -/
theorem alone_iff {zs : List Int} (h : zs.all lenB = true) (hs : zs.sum = 1) : zs.all zobB = true := by
  rw [List.all_eq_true] at h ⊢
  induction zs with
  | nil => intro x hx; cases hx
  | cons a l ih =>
    have ha := lenB_yes (h a (by simp))
    have hl := sum_bd (fun y hy => h y (List.mem_cons_of_mem _ hy))
    rw [List.sum_cons] at hs
    intro x hx
    rcases List.mem_cons.1 hx with rfl | hx
    · simp [zobB]; omega
    · by_cases h0 : a = 0
      · exact ih (fun y hy => h y (List.mem_cons_of_mem _ hy)) (by omega) x hx
      · have hz : l.sum = 0 := by omega
        have : ∀ (l : List Int), (∀ y ∈ l, lenB y = true) → l.sum = 0 → ∀ y ∈ l, y = 0 := by
          intro l
          induction l with
          | nil => intro _ _ y hy; cases hy
          | cons b t ih2 =>
            intro h1 h2 y hy
            have hb := lenB_yes (h1 b (by simp))
            have ht := sum_bd (fun z hz => h1 z (List.mem_cons_of_mem _ hz))
            rw [List.sum_cons] at h2
            rcases List.mem_cons.1 hy with rfl | hy
            · omega
            · exact ih2 (fun z hz => h1 z (List.mem_cons_of_mem _ hz)) (by omega) y hy
        have := this l (fun y hy => h y (List.mem_cons_of_mem _ hy)) hz x hx
        subst this
        rfl
theorem one_len {n : Int} (h : zobB n = true) : lenB n = true := by simp [zobB] at h; simp [lenB]; omega
theorem caR_parts (zs : List Int) : caR zs = (fullB zs || aloneB zs) := by
  unfold caR fullB aloneB
  by_cases h1 : zs.length ≤ 320
  · rw [decide_eq_true h1]
    simp only [Bool.true_and]
    cases ha : zs.all lenB with
    | true =>
      rw [Bool.true_and, Bool.true_and]
      congr 1
      by_cases hs : zs.sum = 1
      · rw [alone_iff ha hs, decide_eq_true hs]; rfl
      · rw [decide_eq_false hs, Bool.and_false]
    | false =>
      rw [Bool.false_and, Bool.false_and, Bool.false_or]
      cases ho : zs.all zobB with
      | false => rfl
      | true =>
        rw [List.all_eq_true] at ho
        have : zs.all lenB = true := List.all_eq_true.2 (fun x hx => one_len (ho x hx))
        rw [ha] at this; cases this
  · rw [decide_eq_false h1]; rfl

end Go.Proofs.Ytbhkaofgljpekaa
