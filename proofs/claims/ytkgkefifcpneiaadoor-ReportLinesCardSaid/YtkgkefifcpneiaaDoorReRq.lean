/- Layer 33: the reference's line is the line. -/
import Derived.Test.YtkgkefifcpneiaaDoorReRl
namespace Go.Proofs.YtkgkefifcpneiaaDoor
open Go.RowKit

def dt (s : ByteArray) : List UInt8 := s.data.toList
theorem dt_append (a b : ByteArray) : dt (a ++ b) = dt a ++ dt b := by unfold dt; rw [ByteArray.data_append, Array.toList_append]
theorem dt_inj {a b : ByteArray} (h : dt a = dt b) : a = b := ByteArray.ext (Array.toList_inj.1 h)
theorem join_snoc {a : List (List UInt8)} (h : a ≠ []) (x : List UInt8) : Lib.join (a ++ [x]) [32] = Lib.join a [32] ++ 32 :: x := by
  induction a with
  | nil => exact absurd rfl h
  | cons y r ih =>
    cases r with
    | nil => simp [Lib.join, List.intercalate]
    | cons z r =>
      have := ih (by simp)
      have e1 : ∀ t : List (List UInt8), Lib.join (y :: z :: t) [32] = y ++ 32 :: Lib.join (z :: t) [32] := fun t => by simp [Lib.join, List.intercalate]
      show Lib.join (y :: z :: (r ++ [x])) [32] = _
      rw [e1, e1]
      rw [show z :: (r ++ [x]) = (z :: r) ++ [x] from rfl, this]
      simp
theorem cnt_none {p : Pr} : cntN p = none ↔ cntS p = ⟨#[]⟩ := by
  unfold cntS
  cases h : cntN p with
  | none => simp
  | some q =>
    obtain ⟨n, x⟩ := q
    constructor
    · intro e; cases e
    · intro e
      have := congrArg ByteArray.size e
      have hs : ((⟨(Lib.itoa n).toArray⟩ : ByteArray) ++ ⟨#[x]⟩).size = (Lib.itoa n).length + 1 := by rw [ByteArray.size_append]; rfl
      have h2 : ((⟨(Lib.itoa n).toArray⟩ : ByteArray) ++ ⟨#[x]⟩).size = 0 := this
      omega
theorem app_ne {α : Type} {a b : List α} (h : a ≠ []) : a ++ b ≠ [] := fun e => h (List.append_eq_nil_iff.1 e).1
theorem rl_eq (p : Pr) : rl5 p = lineS p := by
  apply dt_inj
  have e5 : dt (lineS p) = Lib.join ((lineW p).map dt) [32] := rfl
  have e2 : Lib.join ((front2 p ++ [codeS p.e]).map dt) [32] = dt (rl2 p) := by
    unfold rl2 rl1 front2
    rw [List.map_append]
    by_cases hr : rightB p.name.data.toList = true
    · rw [if_pos hr, if_pos hr]
      rw [show List.map dt [codeS p.e] = [dt (codeS p.e)] from rfl, join_snoc (by simp)]
      simp only [dt_append, List.map_cons, List.map_nil]
      simp [Lib.join, List.intercalate, dt]
    · rw [if_neg hr, if_neg hr]
      rw [show List.map dt [codeS p.e] = [dt (codeS p.e)] from rfl, join_snoc (by simp)]
      simp only [dt_append, List.map_cons, List.map_nil]
      simp [Lib.join, List.intercalate, dt]
  have hne2 : (front2 p ++ [codeS p.e]).map dt ≠ [] := by simp
  have e3 : Lib.join ((front2 p ++ [codeS p.e] ++ (if cntS p = ⟨#[]⟩ then [] else [cntS p])).map dt) [32] = dt (rl3 p) := by
    unfold rl3
    rw [List.map_append]
    cases hq : cntN p with
    | none => rw [if_pos (cnt_none.1 hq), List.map_nil, List.append_nil, e2]
    | some q =>
      obtain ⟨n, x⟩ := q
      have hn : ¬ cntS p = ⟨#[]⟩ := fun e => by rw [cnt_none.2 e] at hq; cases hq
      rw [if_neg hn]
      rw [show List.map dt [cntS p] = [dt (cntS p)] from rfl, join_snoc hne2, e2]
      have hc : cntS p = itoaS n ++ ⟨#[x]⟩ := by unfold cntS; rw [hq]; rfl
      rw [hc]
      simp only [dt_append]
      simp [dt]
  have hne3 : (front2 p ++ [codeS p.e] ++ (if cntS p = ⟨#[]⟩ then [] else [cntS p])).map dt ≠ [] := by rw [List.map_append]; exact app_ne hne2
  have e4 : Lib.join ((front2 p ++ [codeS p.e] ++ (if cntS p = ⟨#[]⟩ then [] else [cntS p]) ++ (if p.rf then ([⟨#[114, 101, 102, 117, 115, 101, 100]⟩] : List ByteArray) else [])).map dt) [32] = dt (rl4 p) := by
    unfold rl4
    rw [List.map_append]
    by_cases hr : p.rf = true
    · rw [if_pos hr, if_pos hr, List.map_cons, List.map_nil, join_snoc hne3, e3, dt_append]
      rfl
    · rw [if_neg hr, if_neg hr, List.map_nil, List.append_nil, e3]
  have hne4 : (front2 p ++ [codeS p.e] ++ (if cntS p = ⟨#[]⟩ then [] else [cntS p]) ++ (if p.rf then ([⟨#[114, 101, 102, 117, 115, 101, 100]⟩] : List ByteArray) else [])).map dt ≠ [] := by rw [List.map_append]; exact app_ne hne3
  rw [e5]
  unfold lineW rl5
  rw [List.map_append]
  by_cases hr : p.po = true
  · rw [if_pos hr, if_pos hr, List.map_cons, List.map_nil, join_snoc hne4, e4, dt_append]
    rfl
  · rw [if_neg hr, if_neg hr, List.map_nil, List.append_nil, e4]
end Go.Proofs.YtkgkefifcpneiaaDoor
