/- Layer 18, plainly: where a stream ends; a descriptor that was put behind it is taken. -/
import Derived.Test.YtnccbnadfgilaaaPcSt
import Derived.Test.YtnccbnadfgilaaaDcTk
import Derived.Test.YtnccbnadfgilaaaDcEn
import Derived.Test.YtnccbnadfgilaaaKThree
import Derived.Test.YtnccbnadfgilaaaDcFits
namespace Go.Proofs.Ytnccbnadfgilaaa
open Go.RowKit CrcP FieldP

theorem end_stream : ∀ (ls : List PcV), (∀ x ∈ ls, x.1.length ≤ 65535) → ∀ (P T : List UInt8), endN (P ++ (pcsB ls ++ ([0, 0] ++ T))) P.length = some (P.length + (pcsB ls).length + 2)
  | [], _, P, T => by
    have h2 : two (P ++ (pcsB [] ++ ([0, 0] ++ T))) P.length = 0 := by
      unfold two
      rw [List.drop_append_of_le_length (Nat.le_refl _), List.drop_length]
      rfl
    rw [endN_zero (by simp [pcsB]) h2]
    rfl
  | x :: l, hx, P, T => by
    have hx1 := hx x (by simp)
    by_cases h0 : x.1 = []
    · have e1 : pcsB (x :: l) = pcsB l := by unfold pcsB; rw [List.map_cons, List.flatten_cons]; unfold pieceB; rw [if_pos h0]; rfl
      rw [e1]
      exact end_stream l (fun y hy => hx y (by simp [hy])) P T
    · have hp2 : (putN x.1.length 2).length = 2 := putN_length _ _
      have e1 : pcsB (x :: l) = (putN x.1.length 2 ++ x.1) ++ pcsB l := by unfold pcsB; rw [List.map_cons, List.flatten_cons]; unfold pieceB; rw [if_neg h0]
      have ih := end_stream l (fun y hy => hx y (by simp [hy])) (P ++ (putN x.1.length 2 ++ x.1)) T
      have ea : P ++ (pcsB (x :: l) ++ ([0, 0] ++ T)) = P ++ (putN x.1.length 2 ++ x.1) ++ (pcsB l ++ ([0, 0] ++ T)) := by rw [e1]; simp [List.append_assoc]
      have hv : val (putN x.1.length 2) = x.1.length := by rw [val_putN]; exact Nat.mod_eq_of_lt (by show _ < 65536; omega)
      have hpos : 1 ≤ x.1.length := by cases hh : x.1 with | nil => exact absurd hh h0 | cons => simp
      rw [ea]
      have h2 : two (P ++ (putN x.1.length 2 ++ x.1) ++ (pcsB l ++ ([0, 0] ++ T))) P.length = x.1.length := by
        unfold two
        rw [List.append_assoc, List.drop_append_of_le_length (Nat.le_refl _), List.drop_length, List.nil_append, List.append_assoc, List.take_append_of_le_length (by omega), List.take_of_length_le (by omega), hv]
      have hl2 : (P ++ (putN x.1.length 2 ++ x.1)).length = P.length + 2 + x.1.length := by rw [List.length_append, List.length_append, hp2]; omega
      rw [endN_more (by rw [List.length_append, hl2]; omega) (by rw [h2]; omega), h2, ← hl2, ih, hl2, e1, List.length_append, List.length_append, hp2]
      congr 1
      omega
/-- A stream's end, whatever is behind it. -/
theorem endV_stream {ls : List PcV} (h : ∀ x ∈ ls, x.1.length ≤ 65535) (T : List UInt8) : endV ((pcsB ls ++ [0, 0]) ++ T) 0 = .tuple #[.int .i64 (((pcsB ls ++ [0, 0]).length : Nat) : Int), .int .i64 0] := by
  have := end_stream ls h [] T
  unfold endV
  rw [if_neg (by omega)]
  rw [List.nil_append, List.length_nil, Nat.zero_add] at this
  show endP (endN _ 0) = _
  rw [List.append_assoc, this]
  show Value.tuple #[.int .i64 (((pcsB ls).length + 2 : Nat) : Int), .int .i64 0] = _
  rw [List.length_append]
  rfl
theorem desc_back {a s : List UInt8} {n l m : Nat} (T : List UInt8) (hd : dcB (n : Int) (l : Int) = true) (hm : m < 4294967296) (hs : s = descB (n : Int) (l : Int) (m : Int)) : dcR (a ++ (s ++ T)) (a.length : Int) = 0 ∧ dcA (a ++ (s ++ T)) (a.length : Int) = .agg #[.int .i64 (n : Int), .int .i64 (l : Int), .int .u32 (m : Int)] := by
  obtain ⟨_, h2, _, h4⟩ := dcB_yes hd
  have hsl : s.length = 20 := by rw [hs]; exact threeB_length _ _ _ _ rfl
  have h20 : ((a ++ (s ++ T)).drop a.length).take 20 = threeB descBytes n l m := by
    rw [List.drop_append_of_le_length (Nat.le_refl _), List.drop_length, List.nil_append, List.take_append_of_le_length (by omega), List.take_of_length_le (by omega), hs]
    unfold descB
    rw [Int.toNat_natCast, Int.toNat_natCast, Int.toNat_natCast]
  obtain ⟨b1, b2, b3, b4, b5, b6⟩ := three_back (mk := descBytes) rfl (by omega) (by omega) hm h20
  have hisB : isB descBytes (a ++ (s ++ T)) (a.length : Int) = true := by
    rw [isB_in (by show _ + 4 ≤ _; omega)]
    exact decide_eq_true b2
  have hr : dcR (a ++ (s ++ T)) (a.length : Int) = 0 := by
    unfold dcR
    rw [Int.toNat_natCast, if_neg (by omega), if_neg (by omega), if_neg (by rw [hisB]; simp), if_neg (by rw [b3]; simp), b4, b5, if_neg (by rw [hd]; simp)]
  refine ⟨hr, ?_⟩
  unfold dcA
  rw [if_pos hr, Int.toNat_natCast, b4, b5, b6]
/-- A stream's descriptor. -/
theorem ofV_stream {ls : List PcV} (h : ∀ x ∈ ls, x.1.length ≤ 65535) (h1 : sumP ls ≤ 65535) (h2 : ls.length ≤ 1000) :
    ofV (pcsB ls ++ [0, 0]) = (sumP ls, (pcsB ls ++ [0, 0]).length, sumN (pcsB ls ++ [0, 0]), 0) ∧ dcB (sumP ls : Nat) ((pcsB ls ++ [0, 0]).length : Nat) = true := by
  have hl := pcsB_len ls
  have hd : dcB (sumP ls : Nat) ((pcsB ls ++ [0, 0]).length : Nat) = true := by
    unfold dcB
    rw [List.length_append]
    simp
    omega
  refine ⟨?_, hd⟩
  unfold ofV
  rw [pcA_stream h]
  dsimp only
  rw [if_neg (by simp), flat_sum, if_pos hd]
theorem fit_same (n l s : Nat) : fitB (n : Int) (l : Int) (s : Int) (n, l, s, 0) = true := by unfold fitB; simp
end Go.Proofs.Ytnccbnadfgilaaa
