/- Layer 8: a code in memory: New, Len, Symbols; Ints of the reference. -/
import Derived.Test.YtbpgaaecifnohaaMgRunsPuts17
import Derived.Test.YtbpgaaecifnohaaMgRunsPuts15
namespace Go.Proofs.Ytbpgaaecifnohaa
open Go.RowKit

def isMax (zs : List Int) (m : Int) : Prop := (∀ x ∈ zs, x ≤ m) ∧ m ∈ zs
set_option maxHeartbeats 1000000 in
theorem ref7Ints_any (A1 A2 : Option Addr) (l c1 c2 : Nat) (xs ys : List Int) (B : Nat) (w : World) (hx : xs.length = l) (hy : ys.length = l) (hm : l ≤ 1099511627776) (h1 : Cells w B A1 (xs.map ic)) (h2 : Cells w B A2 (ys.map ic)) (he : xs = ys) :
    Calls Try.prog 17 #[.slice A1 l c1, .slice A2 l c2] w fun e w' => e = .returned (.bool true) ∧ ∃ m, w' = w.drewN m := by
  subst he
  have H1 := Lib.hid h1
  have H2 := Lib.hid h2
  have HL := Lib.hid hx
  clear h1 h2 hx hy
  go_enter Try.func17, Try.ntmps17
  go_wp2
  go_loopg [5] l (fun gk i wr => ∃ k m : Nat, k + gk = l ∧ i = .int .i64 k ∧ wr = w.drewN m)
  case atStart => exact ⟨0, 0, by omega, rfl, rfl⟩
  case round =>
    obtain ⟨k, m, hk, rfl, rfl⟩ := hrel
    by_cases h : k < l
    · obtain ⟨x, hx⟩ : ∃ x, xs[k]? = some x := ⟨_, List.getElem?_eq_getElem (by have := HL.out; omega)⟩
      obtain ⟨b, o, rfl, hbB, hc⟩ := H1.out (by rw [List.length_map, HL.out]; omega)
      have c0 : w.cell? ⟨b, o + k, none⟩ = some (.int .i64 x) := hc k _ (by rw [List.getElem?_map, hx]; rfl)
      obtain ⟨b2, o2, rfl, hbB2, hc2⟩ := H2.out (by rw [List.length_map, HL.out]; omega)
      have c1 : w.cell? ⟨b2, o2 + k, none⟩ = some (.int .i64 x) := hc2 k _ (by rw [List.getElem?_map, hx]; rfl)
      have hxx : (x != x) = false := by simp
      clear hc hc2 hx
      go_upto_region 6 with (fail)
      go_region
      go_wp2
      go_roundg (gk - 1)
      case measure => omega
      case rel => exact ⟨k + 1, m + 1, by omega, by go_num, rfl⟩
    · obtain rfl : k = l := by omega
      go_wp2
      go_ret
      exact ⟨rfl, m, rfl⟩
set_option maxHeartbeats 1000000 in
theorem clone8_any (A : Option Addr) (l c : Nat) (zs : List Int) (B : Nat) (w : World) (hl : zs.length = l) (h1 : 1 ≤ l) (hm : l ≤ 1000) (hb : Cells w B A (zs.map ic)) (hB : B ≤ w.heap.size) :
    Calls Try.prog 56 #[.slice A l c] w fun e w' => ∃ A' c', e = .returned (.slice A' l c') ∧ w'.ownsRow w.heap.size 3 1 (.slice A' l c') l (zs.map ic) ∧ Below w.heap.size w w' := by
  have HC := Lib.hid hb
  have HL := Lib.hid hl
  have HONE : Hid (∀ u ∈ zs.map ic, u.oneCell' = true) := fun u hu => by
    obtain ⟨s, _, rfl⟩ := List.mem_map.1 hu
    rfl
  obtain ⟨b, o, rfl, hbB, hc⟩ := hb (by rw [List.length_map]; omega)
  obtain ⟨W1, hW1⟩ : ∃ W1, w.alloc (.cells #[] 3) = W1 := ⟨_, rfl⟩
  have HOWN := Lib.hid (show W1.ownsRow w.heap.size 3 1 (.slice (some ⟨w.heap.size, 0, none⟩) 0 0) 0 [] by rw [← hW1]; exact own_empty w _ (Nat.le_refl _))
  have HB1 := Lib.hid (show Below w.heap.size w W1 by rw [← hW1]; exact (Below.refl _ w).alloc (Nat.le_refl _) _)
  have HC1 := Lib.hid (HC.out.below (HB1.out.mono hB) (Nat.le_refl _))
  clear hc hbB hl
  have hnil := Lib.run_eql_slice_nil (P := Try.prog) w 22 3 (some ⟨b, o, none⟩) l c 0 0 Try.underlying22
  go_enter Try.func56, Try.ntmps56
  go_wp2_with (at_builtin; refine wpList_app _ intElem rfl (.tmp 5) (.tmp 6) rfl w.heap.size (.slice (some ⟨w.heap.size, 0, none⟩) 0 0) 0 _ rfl HOWN.out _ _ l c (zs.map ic) rfl (by rw [List.length_map, HL.out, Nat.mul_one]) HC1.out HONE.out (by unfold maxLen; omega) (by omega) HB1.out.size ?_; intro A3 c3 w3 hA; have HA := Lib.hid hA; clear hA)
  go_ret
  exact ⟨A3, c3, rfl, by have := HA.out.own; rwa [Nat.zero_add, List.nil_append] at this, HA.out.below HB1.out HB1.out.size (own_base HOWN.out)⟩
set_option maxHeartbeats 1000000 in
theorem max_any (A : Option Addr) (l c : Nat) (zs : List Int) (B : Nat) (w : World) (hl : zs.length = l) (h1 : 1 ≤ l) (hm : l ≤ 1099511627776) (hb : Cells w B A (zs.map ic)) :
    Calls Try.prog 81 #[.slice A l c] w fun e w' => ∃ m : Int, e = .returned (.int .i64 m) ∧ isMax zs m ∧ w = w' := by
  have HL := Lib.hid hl
  obtain ⟨b, o, rfl, hbB, hc⟩ := hb (by rw [List.length_map]; omega)
  obtain ⟨x, hx⟩ : ∃ x, zs[0]? = some x := ⟨_, List.getElem?_eq_getElem (show 0 < zs.length by omega)⟩
  have c0 : w.cell? ⟨b, o, none⟩ = some (.int .i64 x) := hc 0 _ (by rw [List.getElem?_map, hx]; rfl)
  have HX := Lib.hid hx
  have HC := Lib.hid hc
  have hd : decide ((l : Int) < 1) = false := decide_eq_false (by omega)
  clear hc hx hb hl
  go_enter Try.func81, Try.ntmps81
  go_wp2
  go_loopg [3, 4] l (fun gk v i wr => ∃ (k : Nat) (m : Int), k + gk = l + 1 ∧ 1 ≤ k ∧ k ≤ l ∧ i = .int .i64 k ∧ v = .int .i64 m ∧ isMax (zs.take k) m ∧ wr = w)
  case atStart => exact ⟨1, x, by omega, Nat.le_refl _, h1, rfl, rfl, by rw [take_snoc' HX.out]; simp [isMax], rfl⟩
  case round =>
    obtain ⟨k, m, hk, hk1, hkl, rfl, rfl, hmx, rfl⟩ := hrel
    clear c0
    by_cases h : k < l
    · obtain ⟨y, hy⟩ : ∃ y, zs[k]? = some y := ⟨_, List.getElem?_eq_getElem (by have := HL.out; omega)⟩
      have c1 : wr.cell? ⟨b, o + k, none⟩ = some (.int .i64 y) := HC.out k _ (by rw [List.getElem?_map, hy]; rfl)
      have HT : Hid (zs.take (k + 1) = zs.take k ++ [y]) := take_snoc' hy
      have HM := Lib.hid hmx
      clear hy hmx
      by_cases hc : m < y
      · have HN : Hid (isMax (zs.take (k + 1)) y) := by
          show isMax _ _
          rw [HT.out]
          refine ⟨fun z hz => ?_, by simp⟩
          rcases List.mem_append.1 hz with hz | hz
          · have := HM.out.1 z hz; omega
          · simp at hz; omega
        go_wp2
        go_roundg (gk - 1)
        case measure => omega
        case rel => exact ⟨k + 1, y, by omega, by omega, by omega, by go_num, by go_num, HN.out, rfl⟩
      · have HN : Hid (isMax (zs.take (k + 1)) m) := by
          show isMax _ _
          rw [HT.out]
          refine ⟨fun z hz => ?_, by simp [HM.out.2]⟩
          rcases List.mem_append.1 hz with hz | hz
          · exact HM.out.1 z hz
          · simp at hz; omega
        go_wp2
        go_roundg (gk - 1)
        case measure => omega
        case rel => exact ⟨k + 1, m, by omega, by omega, by omega, by go_num, by go_num, HN.out, rfl⟩
    · obtain rfl : k = l := by omega
      have ht : zs.take k = zs := List.take_of_length_le (by have := HL.out; omega)
      rw [ht] at hmx
      go_wp2
      go_ret
      exact ⟨m, rfl, hmx, rfl⟩
theorem longest_any (A : Option Addr) (l c : Nat) (zs : List Int) (B : Nat) (w : World) (hl : zs.length = l) (h1 : 1 ≤ l) (hm : l ≤ 1099511627776) (hb : Cells w B A (zs.map ic)) :
    Calls Try.prog 57 #[.slice A l c] w fun e w' => ∃ m : Int, e = .returned (.int .i64 m) ∧ isMax zs m ∧ w = w' := by
  have HM := Lib.hid (max_any A l c zs B w hl h1 hm hb)
  have hd : ((l : Int) == 0) = false := by simp; omega
  clear hb hl
  go_enter Try.func57, Try.ntmps57
  go_wp2_with (go_at_call 81; refine HM.out.mono ?_; rintro e w' ⟨m, rfl, hmx, rfl⟩)
  go_ret
  exact ⟨m, rfl, hmx, rfl⟩
end Go.Proofs.Ytbpgaaecifnohaa
/- Layer 7: what lengths cost. -/
namespace Go.Proofs.Ytbpgaaecifnohaa
open Go.RowKit

def csum (ws ls : List Int) : Nat → Int
  | 0 => 0
  | k + 1 => csum ws ls k + ws.getD k 0 * ls.getD k 0
def costB (ws ls : List Int) : Bool := decide (ws.length = ls.length) && decide (ws.length ≤ 320) && ws.all wB && ls.all lenB
theorem costB_yes {ws ls : List Int} (h : costB ws ls = true) : ws.length = ls.length ∧ ws.length ≤ 320 ∧ (∀ x ∈ ws, wB x = true) ∧ ∀ x ∈ ls, lenB x = true := by
  simp only [costB, Bool.and_eq_true, decide_eq_true_eq, List.all_eq_true] at h
  exact ⟨h.1.1.1, h.1.1.2, h.1.2, h.2⟩
theorem mul_bd {x y : Int} (hx : 0 ≤ x ∧ x ≤ 1073741824) (hy : 0 ≤ y ∧ y ≤ 15) : 0 ≤ x * y ∧ x * y ≤ 16106127360 := by
  refine ⟨Int.mul_nonneg hx.1 hy.1, ?_⟩
  have h1 := Int.mul_le_mul hx.2 hy.2 hy.1 (by omega : (0 : Int) ≤ 1073741824)
  omega
theorem getD_good {zs : List Int} {p : Int → Bool} {k : Nat} (h : ∀ x ∈ zs, p x = true) (h0 : p 0 = true) : p (zs.getD k 0) = true := by
  rw [List.getD]
  cases hk : zs[k]? with
  | none => exact h0
  | some x => exact h x (List.mem_of_getElem? hk)
theorem csum_bd {ws ls : List Int} (hw : ∀ x ∈ ws, wB x = true) (hl : ∀ x ∈ ls, lenB x = true) : ∀ k, 0 ≤ csum ws ls k ∧ csum ws ls k ≤ (k : Int) * 16106127360
  | 0 => by simp [csum]
  | k + 1 => by
    have ih := csum_bd hw hl k
    have h1 := mul_bd (wB_yes (getD_good (k := k) hw rfl)) (lenB_yes (getD_good (k := k) hl rfl))
    rw [csum]
    push_cast
    omega
end Go.Proofs.Ytbpgaaecifnohaa
