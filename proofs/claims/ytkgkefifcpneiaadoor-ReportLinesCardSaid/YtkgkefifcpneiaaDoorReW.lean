/- Layer 33: a kind's word, an error's; a word's kind, its error; the reference's. -/
import Derived.Test.YtkgkefifcpneiaaDoorReK
namespace Go.Proofs.YtkgkefifcpneiaaDoor
open Go.RowKit

def wordS (k : Int) : ByteArray := pickS kindL (k - 1) noneS
def codeS (e : Int) : ByteArray := pickS codeL e otherS
set_option maxHeartbeats 800000 in
theorem word33_any (k : Int) (w : World) (hk : -9223372036854775808 ≤ k ∧ k ≤ 9223372036854775807) : Calls Tryd.prog 7 #[.int .i64 k] w fun e w' => e = .returned (.string (wordS k)) ∧ Below w.heap.size w w' := by
  have HN := Lib.hid (kinds33_any w)
  obtain ⟨i, hi⟩ : ∃ i, IntKind.i64.wrap (k - 1) = i := ⟨_, rfl⟩
  have HW : Hid (pickS kindL i noneS = wordS k) := by
    show _ = _
    rw [← hi]
    by_cases h : k = -9223372036854775808
    · rw [h]; rfl
    · rw [IntWalk.i64_in _ (by omega)]; rfl
  go_enter Tryd.func7, Tryd.ntmps7
  go_wp2_with ((first
    | (go_at_call 22; refine HN.out.mono ?_; rintro e w1 ⟨rfl, hc1, hb1⟩; have HC1 := Lib.hid hc1; have HB1 := Lib.hid hb1; clear hc1 hb1)
    | (go_at_call 21; refine (pick33_any _ 18 18 kindL i noneS _ w1 rfl (by omega) HC1.out).mono ?_; rw [HW.out]; rintro e w2 ⟨rfl, rfl⟩)))
  go_ret
  exact ⟨rfl, HB1.out⟩
set_option maxHeartbeats 800000 in
theorem code33_any (k : Int) (w : World) : Calls Tryd.prog 9 #[.int .i64 k] w fun e w' => e = .returned (.string (codeS k)) ∧ Below w.heap.size w w' := by
  have HN := Lib.hid (codes33_any w)
  have HW : Hid (pickS codeL k otherS = codeS k) := rfl
  go_enter Tryd.func9, Tryd.ntmps9
  go_wp2_with ((first
    | (go_at_call 23; refine HN.out.mono ?_; rintro e w1 ⟨rfl, hc1, hb1⟩; have HC1 := Lib.hid hc1; have HB1 := Lib.hid hb1; clear hc1 hb1)
    | (go_at_call 21; refine (pick33_any _ 17 17 codeL k otherS _ w1 rfl (by omega) HC1.out).mono ?_; rw [HW.out]; rintro e w2 ⟨rfl, rfl⟩)))
  go_ret
  exact ⟨rfl, HB1.out⟩
set_option maxHeartbeats 800000 in
theorem error33_any (s : ByteArray) (w : World) : Calls Tryd.prog 11 #[.string s] w fun e w' => ∃ k b, e = .returned (.tuple #[.int .i64 k, .bool b]) ∧ Placed codeL s k b ∧ Below w.heap.size w w' := by
  have HN := Lib.hid (codes33_any w)
  go_enter Tryd.func11, Tryd.ntmps11
  go_wp2_with ((first
    | (go_at_call 23; refine HN.out.mono ?_; rintro e w1 ⟨rfl, hc1, hb1⟩; have HC1 := Lib.hid hc1; have HB1 := Lib.hid hb1; clear hc1 hb1)
    | (go_at_call 24; refine (place33_any _ 17 17 codeL s _ w1 rfl (by omega) HC1.out).mono ?_; rintro e w2 ⟨k, b, rfl, hp, rfl⟩; have HP := Lib.hid hp; clear hp)))
  go_ret2
  exact ⟨k, b, rfl, HP.out, HB1.out⟩
set_option maxHeartbeats 800000 in
theorem kind33_any (s : ByteArray) (w : World) : Calls Tryd.prog 12 #[.string s] w fun e w' => ∃ k b, e = .returned (.int .i64 (if b then k + 1 else 0)) ∧ Placed kindL s k b ∧ Below w.heap.size w w' := by
  have HN := Lib.hid (kinds33_any w)
  go_enter Tryd.func12, Tryd.ntmps12
  go_wp2_with ((first
    | (go_at_call 22; refine HN.out.mono ?_; rintro e w1 ⟨rfl, hc1, hb1⟩; have HC1 := Lib.hid hc1; have HB1 := Lib.hid hb1; clear hc1 hb1)
    | (go_at_call 24; refine (place33_any _ 18 18 kindL s _ w1 rfl (by omega) HC1.out).mono ?_; rintro e w2 ⟨k, b, rfl, hp, rfl⟩; have HP := Lib.hid hp; clear hp; cases b)))
  · go_ret
    exact ⟨k, false, rfl, HP.out, HB1.out⟩
  · have hk : 0 ≤ k ∧ k < 18 := by
      rcases HP.out with ⟨h, _⟩ | ⟨_, j, rfl, hj⟩
      · cases h
      · have := (List.getElem?_eq_some_iff.1 hj).1
        have h18 : kindL.length = 18 := rfl
        omega
    have HE : Hid (Value.int .i64 (wrap64 (1 + k)) = Value.int .i64 (k + 1)) := by
      show _ = _
      rw [IntWalk.wrap64_in _ (by omega), Int.add_comm]
    clear hk
    go_wp2
    go_ret
    exact ⟨k, true, congrArg Ending.returned HE.out, HP.out, HB1.out⟩
theorem wordS_out {k : Int} (h : k < 1 ∨ 18 < k) : wordS k = noneS := pickS_out _ (by have h18 : kindL.length = 18 := rfl; omega)
set_option maxRecDepth 100000 in
set_option maxHeartbeats 4000000 in
theorem refWord33_any (k : Int) (w : World) : Calls Tryd.prog 8 #[.int .i64 k] w fun e w' => e = .returned (.string (wordS k)) ∧ w = w' := by
  by_cases h0 : 1 ≤ k ∧ k ≤ 18
  · obtain h | h | h | h | h | h | h | h | h | h | h | h | h | h | h | h | h | h : k = 1 ∨ k = 2 ∨ k = 3 ∨ k = 4 ∨ k = 5 ∨ k = 6 ∨ k = 7 ∨ k = 8 ∨ k = 9 ∨ k = 10 ∨ k = 11 ∨ k = 12 ∨ k = 13 ∨ k = 14 ∨ k = 15 ∨ k = 16 ∨ k = 17 ∨ k = 18 := by omega
    all_goals
      subst h
      clear h0
      go_enter Tryd.func8, Tryd.ntmps8
      go_wp2
      go_ret
      exact ⟨rfl, rfl⟩
  · have HP : Hid (wordS k = noneS) := wordS_out (by omega)
    have hd1 : (k == 1) = false := by simp; omega
    have hd2 : (k == 2) = false := by simp; omega
    have hd3 : (k == 3) = false := by simp; omega
    have hd4 : (k == 4) = false := by simp; omega
    have hd5 : (k == 5) = false := by simp; omega
    have hd6 : (k == 6) = false := by simp; omega
    have hd7 : (k == 7) = false := by simp; omega
    have hd8 : (k == 8) = false := by simp; omega
    have hd9 : (k == 9) = false := by simp; omega
    have hd10 : (k == 10) = false := by simp; omega
    have hd11 : (k == 11) = false := by simp; omega
    have hd12 : (k == 12) = false := by simp; omega
    have hd13 : (k == 13) = false := by simp; omega
    have hd14 : (k == 14) = false := by simp; omega
    have hd15 : (k == 15) = false := by simp; omega
    have hd16 : (k == 16) = false := by simp; omega
    have hd17 : (k == 17) = false := by simp; omega
    have hd18 : (k == 18) = false := by simp; omega
    clear h0
    go_enter Tryd.func8, Tryd.ntmps8
    go_wp2
    go_ret
    exact ⟨by rw [HP.out]; rfl, rfl⟩
set_option maxHeartbeats 2000000 in
theorem refCode33_any (k : Int) (w : World) : Calls Tryd.prog 10 #[.int .i64 k] w fun e w' => e = .returned (.string (codeS k)) ∧ Below w.heap.size w w' := by
  obtain ⟨W1, hW1⟩ : ∃ W1, w.alloc (.cells (strCells codeL).toArray 9) = W1 := ⟨_, rfl⟩
  have HB1 : Hid (Below w.heap.size w W1) := by show Below _ _ _; rw [← hW1]; exact (Below.refl _ w).alloc (Nat.le_refl _) _
  have hx1 : W1.heap[w.heap.size]? = some (.cells (strCells codeL).toArray 9) := by rw [← hW1]; exact heap_alloc_new w _
  have hC : ∀ j u, (strCells codeL)[j]? = some u → W1.cell? ⟨w.heap.size, j, none⟩ = some u := fun j u hu => by
    rw [cell_of_row W1 _ j _ _ _ hx1, ← Array.getElem?_toList]
    exact hu
  have HW : Hid (w.alloc (.cells #[.string ⟨#[111, 107]⟩, .string ⟨#[97, 114, 103]⟩, .string ⟨#[101, 110, 100]⟩, .string ⟨#[102, 111, 114, 109]⟩, .string ⟨#[115, 117, 109]⟩, .string ⟨#[115, 105, 122, 101]⟩, .string ⟨#[110, 97, 109, 101]⟩, .string ⟨#[110, 111, 116, 102, 111, 117, 110, 100]⟩, .string ⟨#[98, 117, 115, 121]⟩, .string ⟨#[110, 111, 115, 112, 97, 99, 101]⟩, .string ⟨#[105, 111]⟩, .string ⟨#[112, 111, 105, 115, 111, 110, 101, 100]⟩, .string ⟨#[99, 108, 111, 115, 101, 100]⟩, .string ⟨#[99, 111, 100, 101, 115]⟩, .string ⟨#[108, 105, 109, 105, 116]⟩, .string ⟨#[110, 111, 115, 116, 114, 101, 97, 109]⟩, .string ⟨#[101, 120, 105, 115, 116, 115]⟩] 9) = W1) := hW1
  clear hx1 hW1
  have h17 : codeL.length = 17 := rfl
  by_cases h0 : k < 0
  · have hd0 : decide (k < 0) = true := by simp [h0]
    have HP : Hid (codeS k = otherS) := pickS_out _ (.inl h0)
    clear h0 hC h17
    go_enter Tryd.func10, Tryd.ntmps10
    go_wp2
    go_ret
    rw [HW.out, HP.out]
    exact ⟨rfl, HB1.out⟩
  · have hd0 : decide (k < 0) = false := by simp; omega
    by_cases h1 : 17 ≤ k
    · have hd1 : decide (17 ≤ k) = true := by simp [h1]
      have HP : Hid (codeS k = otherS) := pickS_out _ (.inr (by omega))
      clear h0 h1 hC h17
      go_enter Tryd.func10, Tryd.ntmps10
      go_wp2
      go_ret
      rw [HW.out, HP.out]
      exact ⟨rfl, HB1.out⟩
    · obtain ⟨n, rfl⟩ : ∃ n : Nat, k = (n : Int) := ⟨k.toNat, by omega⟩
      obtain ⟨x, hx⟩ : ∃ x, codeL[n]? = some x := ⟨_, List.getElem?_eq_getElem (by omega)⟩
      have hd1 : decide (17 ≤ (n : Int)) = false := by simp; omega
      have hkl : n < 17 := by omega
      have HP : Hid (codeS (n : Int) = x) := pickS_in _ hx
      have HK : Hid ((strCells codeL)[n]'(by rw [str_len]; exact hkl) = Value.string x) := (List.getElem?_eq_some_iff.1 (str_get hx)).2
      clear h0 h1 hC h17 hx
      go_enter Tryd.func10, Tryd.ntmps10
      go_wp2
      go_ret
      rw [HP.out, HW.out]
      exact ⟨congrArg Ending.returned HK.out, HB1.out⟩
end Go.Proofs.YtkgkefifcpneiaaDoor
