/- The contracts of layer 3's writer: Len, Bytes, Align; slices.Clone; a writer that isn't there; lives. -/
import Derived.Test.YtnobeipabfdkjaaBitsPut
import Derived.Deep.QuietTactic
import Derived.BigQuiet
namespace Go.Proofs.Ytnobeipabfdkjaa
open Go.RowKit BitsP

set_option maxHeartbeats 400000 in
theorem clone_any (A : Option Addr) (l c B : Nat) (bs : List UInt8) (w : World) (hl : bs.length = l) (hm : l ≤ 1099511627776) (hB : B ≤ w.heap.size) (hb : Bytes w B A bs) :
    Calls Try.prog 35 #[.slice A l c] w fun e w' => ∃ A' c', e = .returned (.slice A' l c') ∧ OwnB w' w.heap.size 5 (.slice A' l c') l bs ∧ Below w.heap.size w w' := by
  have HL := Lib.hid hl
  have HB : Hid (Bytes w B A bs) := hb
  have hnil := Lib.run_eql_slice_nil (P := Try.prog) w 41 5 A l c 0 0 Try.underlying41
  clear hl hb
  cases A with
  | none =>
    have h0 : l = 0 := by
      rcases Nat.eq_zero_or_pos l with h0 | h0
      · exact h0
      · obtain ⟨_, _, h, _⟩ := HB.out (by rw [byteCells_length, HL.out]; exact h0)
        cases h
    subst h0
    have HN : Hid (bs = []) := List.eq_nil_of_length_eq_zero HL.out
    go_enter Try.func35, Try.ntmps35
    go_wp2
    go_ret
    exact ⟨none, 0, rfl, by rw [HN.out]; exact World.ownsRow_nil _ _ _ _, Below.refl _ _⟩
  | some ad =>
    go_enter Try.func35, Try.ntmps35
    go_wp2_with (at_builtin; refine wpList_app _ byteElem3 rfl (.tmp 5) (.tmp 6) rfl w.heap.size (.slice (some ⟨w.heap.size, 0, none⟩) 0 0) 0 [] rfl (own_empty w _ (Nat.le_refl _)) B (some ad) l c (byteCells bs) rfl (by rw [byteCells_length, HL.out, Nat.mul_one]) (HB.out.alloc hB _) (byteCells_one _) (by unfold maxLen; omega) (by omega) (by simp) ?_; intro A1 c1 w1 hA; have HA := Lib.hid hA; clear hA)
    simp only [Nat.zero_add, List.nil_append] at HA ⊢
    go_ret
    exact ⟨A1, c1, rfl, HA.out.own, HA.out.below ((Below.refl w.heap.size w).alloc (Nat.le_refl _) (.cells #[] 5)) (by simp) (by simp [Value.ownBlock])⟩

/-- How many bits lack for a whole byte. -/
theorem lack_val {l r : Nat} (hr : r < 8) : lack (8 * l + r) = if r = 0 then 0 else 8 - r := by
  unfold lack
  by_cases h : r = 0
  · subst h; simp
  · rw [if_neg h]; omega

end Go.Proofs.Ytnobeipabfdkjaa
