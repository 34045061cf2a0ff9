/- Layer 8: a code in memory: New, Len, Symbols; Ints of the reference. -/
import Derived.Test.YtbhkaofgljpekaaCa5
namespace Go.Proofs.Ytbhkaofgljpekaa
open Go.RowKit

def isMax (zs : List Int) (m : Int) : Prop := (∀ x ∈ zs, x ≤ m) ∧ m ∈ zs
set_option maxHeartbeats 1000000 in
theorem ref7Ints_any (A1 A2 : Option Addr) (l c1 c2 : Nat) (xs ys : List Int) (B : Nat) (w : World) (hx : xs.length = l) (hy : ys.length = l) (hm : l ≤ 1099511627776) (h1 : Cells w B A1 (xs.map ic)) (h2 : Cells w B A2 (ys.map ic)) (he : xs = ys) :
    Calls Try.prog 11 #[.slice A1 l c1, .slice A2 l c2] w fun e w' => e = .returned (.bool true) ∧ ∃ m, w' = w.drewN m := by
  subst he
  have H1 := Lib.hid h1
  have H2 := Lib.hid h2
  have HL := Lib.hid hx
  clear h1 h2 hx hy
  go_enter Try.func11, Try.ntmps11
  go_wp2
  go_loopg [5] l (fun gk i wr => ∃ k m : Nat, k + gk = l ∧ i = .int .i64 k ∧ wr = w.drewN m)
  case atStart => exact ⟨0, 0, by omega, rfl, rfl⟩
  case round =>
    obtain ⟨k, m, hk, rfl, rfl⟩ := hrel
    by_cases h : k < l
    · obtain ⟨x, hx⟩ : ∃ x, xs[k]? = some x := ⟨_, List.getElem?_eq_getElem (by have := HL.out; omega)⟩
      obtain ⟨b, o, rfl, hbB, hc⟩ := H1.out (by rw [List.length_map, HL.out]; omega)
      have c0 : w.cell? ⟨b, o + k, none⟩ = some (.int .i64 x) := hc k _ (by rw [List.getElem?_map, hx]; rfl)
      obtain ⟨b2, o2, rfl, hbB2, hc2⟩ := H2.out (by rw [List.length_map, HL.out]; omega)
      have c1 : w.cell? ⟨b2, o2 + k, none⟩ = some (.int .i64 x) := hc2 k _ (by rw [List.getElem?_map, hx]; rfl)
      have hxx : (x != x) = false := by simp
      clear hc hc2 hx
      go_upto_region 6 with (fail)
      go_region
      go_wp2
      go_roundg (gk - 1)
      case measure => omega
      case rel => exact ⟨k + 1, m + 1, by omega, by go_num, rfl⟩
    · obtain rfl : k = l := by omega
      go_wp2
      go_ret
      exact ⟨rfl, m, rfl⟩
set_option maxHeartbeats 1000000 in
theorem max_any (A : Option Addr) (l c : Nat) (zs : List Int) (B : Nat) (w : World) (hl : zs.length = l) (h1 : 1 ≤ l) (hm : l ≤ 1099511627776) (hb : Cells w B A (zs.map ic)) :
    Calls Try.prog 25 #[.slice A l c] w fun e w' => ∃ m : Int, e = .returned (.int .i64 m) ∧ isMax zs m ∧ w = w' := by
  have HL := Lib.hid hl
  obtain ⟨b, o, rfl, hbB, hc⟩ := hb (by rw [List.length_map]; omega)
  obtain ⟨x, hx⟩ : ∃ x, zs[0]? = some x := ⟨_, List.getElem?_eq_getElem (show 0 < zs.length by omega)⟩
  have c0 : w.cell? ⟨b, o, none⟩ = some (.int .i64 x) := hc 0 _ (by rw [List.getElem?_map, hx]; rfl)
  have HX := Lib.hid hx
  have HC := Lib.hid hc
  have hd : decide ((l : Int) < 1) = false := decide_eq_false (by omega)
  clear hc hx hb hl
  go_enter Try.func25, Try.ntmps25
  go_wp2
  go_loopg [3, 4] l (fun gk v i wr => ∃ (k : Nat) (m : Int), k + gk = l + 1 ∧ 1 ≤ k ∧ k ≤ l ∧ i = .int .i64 k ∧ v = .int .i64 m ∧ isMax (zs.take k) m ∧ wr = w)
  case atStart => exact ⟨1, x, by omega, Nat.le_refl _, h1, rfl, rfl, by rw [take_snoc' HX.out]; simp [isMax], rfl⟩
  case round =>
    obtain ⟨k, m, hk, hk1, hkl, rfl, rfl, hmx, rfl⟩ := hrel
    clear c0
    by_cases h : k < l
    · obtain ⟨y, hy⟩ : ∃ y, zs[k]? = some y := ⟨_, List.getElem?_eq_getElem (by have := HL.out; omega)⟩
      have c1 : wr.cell? ⟨b, o + k, none⟩ = some (.int .i64 y) := HC.out k _ (by rw [List.getElem?_map, hy]; rfl)
      have HT : Hid (zs.take (k + 1) = zs.take k ++ [y]) := take_snoc' hy
      have HM := Lib.hid hmx
      clear hy hmx
      by_cases hc : m < y
      · have HN : Hid (isMax (zs.take (k + 1)) y) := by
          show isMax _ _
          rw [HT.out]
          refine ⟨fun z hz => ?_, by simp⟩
          rcases List.mem_append.1 hz with hz | hz
          · have := HM.out.1 z hz; omega
          · simp at hz; omega
        go_wp2
        go_roundg (gk - 1)
        case measure => omega
        case rel => exact ⟨k + 1, y, by omega, by omega, by omega, by go_num, by go_num, HN.out, rfl⟩
      · have HN : Hid (isMax (zs.take (k + 1)) m) := by
          show isMax _ _
          rw [HT.out]
          refine ⟨fun z hz => ?_, by simp [HM.out.2]⟩
          rcases List.mem_append.1 hz with hz | hz
          · exact HM.out.1 z hz
          · simp at hz; omega
        go_wp2
        go_roundg (gk - 1)
        case measure => omega
        case rel => exact ⟨k + 1, m, by omega, by omega, by omega, by go_num, by go_num, HN.out, rfl⟩
    · obtain rfl : k = l := by omega
      have ht : zs.take k = zs := List.take_of_length_le (by have := HL.out; omega)
      rw [ht] at hmx
      go_wp2
      go_ret
      exact ⟨m, rfl, hmx, rfl⟩
theorem longest_any (A : Option Addr) (l c : Nat) (zs : List Int) (B : Nat) (w : World) (hl : zs.length = l) (h1 : 1 ≤ l) (hm : l ≤ 1099511627776) (hb : Cells w B A (zs.map ic)) :
    Calls Try.prog 16 #[.slice A l c] w fun e w' => ∃ m : Int, e = .returned (.int .i64 m) ∧ isMax zs m ∧ w = w' := by
  have HM := Lib.hid (max_any A l c zs B w hl h1 hm hb)
  have hd : ((l : Int) == 0) = false := by simp; omega
  clear hb hl
  go_enter Try.func16, Try.ntmps16
  go_wp2_with (go_at_call 25; refine HM.out.mono ?_; rintro e w' ⟨m, rfl, hmx, rfl⟩)
  go_ret
  exact ⟨m, rfl, hmx, rfl⟩
end Go.Proofs.Ytbhkaofgljpekaa
