/- Layer 8: a code in memory: New, Len, Symbols; Ints of the reference. -/
import Derived.Test.YtnobeipabfdkjaaCa5
namespace Go.Proofs.Ytnobeipabfdkjaa
open Go.RowKit

def isMax (zs : List Int) (m : Int) : Prop := (∀ x ∈ zs, x ≤ m) ∧ m ∈ zs
set_option maxHeartbeats 1000000 in
theorem clone8_any (A : Option Addr) (l c : Nat) (zs : List Int) (B : Nat) (w : World) (hl : zs.length = l) (h1 : 1 ≤ l) (hm : l ≤ 1000) (hb : Cells w B A (zs.map ic)) (hB : B ≤ w.heap.size) :
    Calls Try.prog 38 #[.slice A l c] w fun e w' => ∃ A' c', e = .returned (.slice A' l c') ∧ w'.ownsRow w.heap.size 3 1 (.slice A' l c') l (zs.map ic) ∧ Below w.heap.size w w' := by
  have HC := Lib.hid hb
  have HL := Lib.hid hl
  have HONE : Hid (∀ u ∈ zs.map ic, u.oneCell' = true) := fun u hu => by
    obtain ⟨s, _, rfl⟩ := List.mem_map.1 hu
    rfl
  obtain ⟨b, o, rfl, hbB, hc⟩ := hb (by rw [List.length_map]; omega)
  obtain ⟨W1, hW1⟩ : ∃ W1, w.alloc (.cells #[] 3) = W1 := ⟨_, rfl⟩
  have HOWN := Lib.hid (show W1.ownsRow w.heap.size 3 1 (.slice (some ⟨w.heap.size, 0, none⟩) 0 0) 0 [] by rw [← hW1]; exact own_empty w _ (Nat.le_refl _))
  have HB1 := Lib.hid (show Below w.heap.size w W1 by rw [← hW1]; exact (Below.refl _ w).alloc (Nat.le_refl _) _)
  have HC1 := Lib.hid (HC.out.below (HB1.out.mono hB) (Nat.le_refl _))
  clear hc hbB hl
  have hnil := Lib.run_eql_slice_nil (P := Try.prog) w 25 3 (some ⟨b, o, none⟩) l c 0 0 Try.underlying25
  go_enter Try.func38, Try.ntmps38
  go_wp2_with (at_builtin; refine wpList_app _ intElem rfl (.tmp 5) (.tmp 6) rfl w.heap.size (.slice (some ⟨w.heap.size, 0, none⟩) 0 0) 0 _ rfl HOWN.out _ _ l c (zs.map ic) rfl (by rw [List.length_map, HL.out, Nat.mul_one]) HC1.out HONE.out (by unfold maxLen; omega) (by omega) HB1.out.size ?_; intro A3 c3 w3 hA; have HA := Lib.hid hA; clear hA)
  go_ret
  exact ⟨A3, c3, rfl, by have := HA.out.own; rwa [Nat.zero_add, List.nil_append] at this, HA.out.below HB1.out HB1.out.size (own_base HOWN.out)⟩
set_option maxHeartbeats 1000000 in
theorem max_any (A : Option Addr) (l c : Nat) (zs : List Int) (B : Nat) (w : World) (hl : zs.length = l) (h1 : 1 ≤ l) (hm : l ≤ 1099511627776) (hb : Cells w B A (zs.map ic)) :
    Calls Try.prog 47 #[.slice A l c] w fun e w' => ∃ m : Int, e = .returned (.int .i64 m) ∧ isMax zs m ∧ w = w' := by
  have HL := Lib.hid hl
  obtain ⟨b, o, rfl, hbB, hc⟩ := hb (by rw [List.length_map]; omega)
  obtain ⟨x, hx⟩ : ∃ x, zs[0]? = some x := ⟨_, List.getElem?_eq_getElem (show 0 < zs.length by omega)⟩
  have c0 : w.cell? ⟨b, o, none⟩ = some (.int .i64 x) := hc 0 _ (by rw [List.getElem?_map, hx]; rfl)
  have HX := Lib.hid hx
  have HC := Lib.hid hc
  have hd : decide ((l : Int) < 1) = false := decide_eq_false (by omega)
  clear hc hx hb hl
  go_enter Try.func47, Try.ntmps47
  go_wp2
  go_loopg [3, 4] l (fun gk v i wr => ∃ (k : Nat) (m : Int), k + gk = l + 1 ∧ 1 ≤ k ∧ k ≤ l ∧ i = .int .i64 k ∧ v = .int .i64 m ∧ isMax (zs.take k) m ∧ wr = w)
  case atStart => exact ⟨1, x, by omega, Nat.le_refl _, h1, rfl, rfl, by rw [take_snoc' HX.out]; simp [isMax], rfl⟩
  case round =>
    obtain ⟨k, m, hk, hk1, hkl, rfl, rfl, hmx, rfl⟩ := hrel
    clear c0
    by_cases h : k < l
    · obtain ⟨y, hy⟩ : ∃ y, zs[k]? = some y := ⟨_, List.getElem?_eq_getElem (by have := HL.out; omega)⟩
      have c1 : wr.cell? ⟨b, o + k, none⟩ = some (.int .i64 y) := HC.out k _ (by rw [List.getElem?_map, hy]; rfl)
      have HT : Hid (zs.take (k + 1) = zs.take k ++ [y]) := take_snoc' hy
      have HM := Lib.hid hmx
      clear hy hmx
      by_cases hc : m < y
      · have HN : Hid (isMax (zs.take (k + 1)) y) := by
          show isMax _ _
          rw [HT.out]
          refine ⟨fun z hz => ?_, by simp⟩
          rcases List.mem_append.1 hz with hz | hz
          · have := HM.out.1 z hz; omega
          · simp at hz; omega
        go_wp2
        go_roundg (gk - 1)
        case measure => omega
        case rel => exact ⟨k + 1, y, by omega, by omega, by omega, by go_num, by go_num, HN.out, rfl⟩
      · have HN : Hid (isMax (zs.take (k + 1)) m) := by
          show isMax _ _
          rw [HT.out]
          refine ⟨fun z hz => ?_, by simp [HM.out.2]⟩
          rcases List.mem_append.1 hz with hz | hz
          · exact HM.out.1 z hz
          · simp at hz; omega
        go_wp2
        go_roundg (gk - 1)
        case measure => omega
        case rel => exact ⟨k + 1, m, by omega, by omega, by omega, by go_num, by go_num, HN.out, rfl⟩
    · obtain rfl : k = l := by omega
      have ht : zs.take k = zs := List.take_of_length_le (by have := HL.out; omega)
      rw [ht] at hmx
      go_wp2
      go_ret
      exact ⟨m, rfl, hmx, rfl⟩
theorem longest_any (A : Option Addr) (l c : Nat) (zs : List Int) (B : Nat) (w : World) (hl : zs.length = l) (h1 : 1 ≤ l) (hm : l ≤ 1099511627776) (hb : Cells w B A (zs.map ic)) :
    Calls Try.prog 39 #[.slice A l c] w fun e w' => ∃ m : Int, e = .returned (.int .i64 m) ∧ isMax zs m ∧ w = w' := by
  have HM := Lib.hid (max_any A l c zs B w hl h1 hm hb)
  have hd : ((l : Int) == 0) = false := by simp; omega
  clear hb hl
  go_enter Try.func39, Try.ntmps39
  go_wp2_with (go_at_call 47; refine HM.out.mono ?_; rintro e w' ⟨m, rfl, hmx, rfl⟩)
  go_ret
  exact ⟨m, rfl, hmx, rfl⟩
end Go.Proofs.Ytnobeipabfdkjaa
