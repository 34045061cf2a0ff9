/- Layer 15: are texts too many, too long; two lists that are the same. -/
import Derived.Test.YtmcblagpindncaaDoorMbL
namespace Go.Proofs.YtmcblagpindncaaDoor
open Go.RowKit

set_option maxHeartbeats 800000 in
theorem great15_any (A : Option Addr) (l c : Nat) (ss : List (List UInt8)) (B : Nat) (w : World) (hl : ss.length = l) (hb : Cells w B A (textCells ss)) :
    Calls Tryd.prog 14 #[.slice A l c] w fun e w' => ∃ o : Bool, e = .returned (.bool o) ∧ w = w' ∧ (o = false → ss.length ≤ 60 ∧ ∀ p ∈ ss, p.length ≤ 200) := by
  have HC := Lib.hid hb
  clear hb
  go_enter Tryd.func14, Tryd.ntmps14
  go_wp2
  go_loopg [3] l (fun gk i wr => ∃ k : Nat, k + gk = l ∧ k ≤ 100 ∧ i = .int .i64 k ∧ wr = w ∧ ∀ (j : Nat) (f : List UInt8), j < k → ss[j]? = some f → f.length ≤ 200)
  case atStart => exact ⟨0, by omega, by omega, rfl, rfl, fun j f hj => absurd hj (Nat.not_lt_zero _)⟩
  case round =>
    obtain ⟨k, hk, hk3, rfl, rfl, hall⟩ := hrel
    have HA19 := Lib.hid hall
    clear hall
    by_cases h : k < l
    · by_cases h3 : k < 100
      · obtain ⟨f, hx⟩ : ∃ x, ss[k]? = some x := ⟨_, List.getElem?_eq_getElem (by omega)⟩
        obtain ⟨b, o, rfl, hbB, hc⟩ := HC.out (by rw [text_len]; omega)
        have c0 := hc k _ (textCells_get hx)
        have HX := Lib.hid hx
        have hd3 : decide ((k : Int) < 100) = true := by simp; omega
        have HK3 := Lib.hid h3
        have hw1 : IntKind.i64.wrap ((k : Int) + 1) = (k : Int) + 1 := IntWalk.i64_in _ (by omega)
        clear hc hx h3 hk3
        by_cases hs : 200 < f.length
        · have hd : decide (200 < (f.length : Int)) = true := by simp; omega
          clear hs
          go_wp2
          go_ret
          exact ⟨true, rfl, rfl, fun h => by cases h⟩
        · have hd : decide (200 < (f.length : Int)) = false := by simp; omega
          have HNA : Hid (f.length ≤ 200) := by show _ ≤ _; omega
          clear hs
          go_wp2
          go_roundg (gk - 1)
          case measure => omega
          case rel =>
            have hk3 := HK3.out
            exact ⟨k + 1, by omega, by omega, by go_num, rfl, fun j f' hj hf' => by
            by_cases hjk : j = k
            · subst hjk
              rw [HX.out] at hf'
              injection hf' with hf'
              subst hf'
              exact HNA.out
            · exact HA19.out j f' (by omega) hf'⟩
      · obtain rfl : k = 100 := by omega
        have hl2 : decide (60 < (l : Int)) = true := by simp; omega
        go_wp2
        go_ret
        exact ⟨true, by rw [← hl2]; rfl, rfl, fun h => by cases h⟩
    · obtain rfl : k = l := by omega
      go_wp2
      go_ret
      exact ⟨decide (60 < (k : Int)), rfl, rfl, fun hd => ⟨by simp at hd; omega, fun f hf => by
        obtain ⟨j, hj⟩ := List.mem_iff_getElem?.1 hf
        exact HA19.out j f (by have := (List.getElem?_eq_some_iff.1 hj).1; omega) hj⟩⟩
theorem drewN_two (w : World) (n m : Nat) : (w.drewN n).drewN m = w.drewN (n + m) := by simp [World.drewN, Nat.add_assoc]
set_option maxHeartbeats 800000 in
theorem sameT_any (A : Option Addr) (l c : Nat) (C : Option Addr) (c2 : Nat) (ss : List (List UInt8)) (B : Nat) (w : World) (hl : ss.length = l) (hm : l ≤ 1000000) (hb : Cells w B A (textCells ss)) (hb2 : Cells w B C (textCells ss)) :
    Calls Tryd.prog 13 #[.slice A l c, .slice C l c2] w fun e w' => e = .returned (.bool true) ∧ ∃ n, w.drewN n = w' := by
  have HC := Lib.hid hb
  have HC2 := Lib.hid hb2
  clear hb hb2
  go_enter Tryd.func13, Tryd.ntmps13
  go_wp2
  go_loopg [5] l (fun gk i wr => ∃ (k n : Nat), k + gk = l ∧ i = .int .i64 k ∧ wr = w.drewN n)
  case atStart => exact ⟨0, 0, by omega, rfl, rfl⟩
  case round =>
    obtain ⟨k, n, hk, rfl, hwr⟩ := hrel
    have HW := Lib.hid hwr
    by_cases h : k < l
    · obtain ⟨x, hx⟩ : ∃ x, ss[k]? = some x := ⟨_, List.getElem?_eq_getElem (by omega)⟩
      obtain ⟨b, o, rfl, _, hc⟩ := HC.out (by rw [text_len]; omega)
      obtain ⟨b2, o2, rfl, _, hc2⟩ := HC2.out (by rw [text_len]; omega)
      have c0 : wr.cell? ⟨b, o + k, none⟩ = some (.string ⟨x.toArray⟩) := by rw [hwr]; exact hc k _ (textCells_get hx)
      have c1 : wr.cell? ⟨b2, o2 + k, none⟩ = some (.string ⟨x.toArray⟩) := by rw [hwr]; exact hc2 k _ (textCells_get hx)
      have hki : (k : Int) < (l : Int) := by omega
      have hw1 : IntKind.i64.wrap ((k : Int) + 1) = (k : Int) + 1 := IntWalk.i64_in _ (by omega)
      clear hc hc2 hx hwr
      go_wp2
      go_quiet (fail)
      go_wp2
      go_roundg (gk - 1)
      case measure => omega
      case rel => exact ⟨k + 1, _, by omega, by go_num, by rw [HW.out]; exact drewN_two _ _ _⟩
    · obtain rfl : k = l := by omega
      clear hwr
      go_wp2
      go_ret
      exact ⟨rfl, n, HW.out.symm⟩
end Go.Proofs.YtmcblagpindncaaDoor
