/- Layer 7: pairs of a row. -/
import Derived.Test.YtbhkaofgljpekaaWeiEl
import Derived.Test.YtbhkaofgljpekaaFoot
import Derived.Deep.LoopGhost
import Derived.Deep.QuietTactic
import Derived.BigQuiet
import Derived.Deep.RegionLaw
import Derived.IntWalk
namespace Go.Proofs.Ytbhkaofgljpekaa
open Go.RowKit

set_option maxHeartbeats 1000000 in
theorem pairs_any (A : Option Addr) (l c : Nat) (xs : List WE) (cs : List Value) (k B : Nat) (w : World) (hl : xs.length = l) (hm : l ≤ 1000) (hB : B ≤ w.heap.size) (hb : Cells w B A cs) (hr : RowE w B k xs cs) (hbd : ∀ x ∈ xs, x.1 ≤ 1125899906842624) :
    Calls Try.prog 32 #[.slice A l c] w fun e w' => ∃ A' n' c' cs', e = .returned (.slice A' n' c') ∧ n' = l / 2 ∧ w'.ownsRow w.heap.size 42 4 (.slice A' n' c') n' cs' ∧ RowE w' B (k + 1) (prW xs) cs' ∧ Below w.heap.size w w' := by
  have HC := Lib.hid hb
  have HL := Lib.hid hl
  have HR := Lib.hid hr
  have HW := Lib.hid hbd
  clear hb hl hr hbd
  go_enter Try.func32, Try.ntmps32
  go_wp2
  go_loopg [3, 4] l (fun gk v i wr => ∃ j q : Nat, j + gk = l ∧ q = 2 * j + 1 ∧ 2 * j ≤ l ∧ i = .int .i64 q ∧ ∃ A1 c1 cs1, v = .slice A1 j c1 ∧ wr.ownsRow w.heap.size 42 4 (.slice A1 j c1) j cs1 ∧ RowE wr B (k + 1) ((prW xs).take j) cs1 ∧ Below w.heap.size w wr)
  case atStart => exact ⟨0, 1, by omega, rfl, by omega, rfl, none, 0, [], rfl, World.ownsRow_nil _ _ _ _, RowE.nil _ _ _, Below.refl _ _⟩
  case round =>
    obtain ⟨j, q, hj, hq, hjl, rfl, A1, c1, cs1, rfl, hown, hrow, hbel⟩ := hrel
    have HQ := Lib.hid hq
    have HOWN := Lib.hid hown
    have HROW := Lib.hid hrow
    have HBEL := Lib.hid hbel
    clear hown hrow hbel hq
    by_cases h : q < l
    · obtain ⟨a, ha⟩ : ∃ a, xs[2 * j]? = some a := ⟨_, List.getElem?_eq_getElem (by have := HL.out; have := HQ.out; omega)⟩
      obtain ⟨b, hb⟩ : ∃ b, xs[2 * j + 1]? = some b := ⟨_, List.getElem?_eq_getElem (by have := HL.out; have := HQ.out; omega)⟩
      have HPR := Lib.hid (pr_at ha hb)
      have hwa := HW.out a (List.mem_of_getElem? ha)
      have hwb := HW.out b (List.mem_of_getElem? hb)
      obtain ⟨bb, o, rfl, hbB, hc⟩ := (HC.out.below HBEL.out hB) (by rw [HR.out.len, HL.out]; omega)
      obtain ⟨ca, hea, haa⟩ := row_at (HR.out.below HBEL.out hB (Nat.le_refl _)) hc ha
      obtain ⟨cb, heb, hab⟩ := row_at (HR.out.below HBEL.out hB (Nat.le_refl _)) hc hb
      obtain ⟨sa, pa, qa, hca⟩ := hea.len
      obtain ⟨sb, pb, qb, hcb⟩ := heb.len
      obtain ⟨p, hp⟩ : ∃ p, 2 * j = p := ⟨_, rfl⟩
      have hqp : q = p + 1 := by have := HQ.out; omega
      rw [hp] at haa hab
      rw [← hqp] at hab
      have d0 : wr.cell? ⟨bb, o + p * 4, none⟩ = some (.int .i64 (a.1 : Int)) := haa 0 _ (by rw [hca]; rfl)
      have d1 : wr.cell? ⟨bb, o + q * 4, none⟩ = some (.int .i64 (b.1 : Int)) := hab 0 _ (by rw [hcb]; rfl)
      have HE : Hid (El wr B (k + 1) (a.1 + b.1, a.2 ++ b.2) (elC (a.1 + b.1) 0 (some ⟨bb, o + p * 4, none⟩) (some ⟨bb, o + q * 4, none⟩))) := by
        show El _ _ _ _ _
        exact .inr ⟨a, b, bb, _, bb, _, ca, cb, rfl, rfl, hbB, hbB, hea, heb, haa, hab⟩
      have HBB := Lib.hid hbB
      have hpq : (q : Int) - 1 = (p : Int) := by omega
      have hwp : IntKind.i64.wrap ((q : Int) - 1) = (p : Int) := by rw [hpq]; exact IntWalk.i64_in _ (by omega)
      have hpl : p < l := by omega
      have hp1 : (p : Int) < (l : Int) := by omega
      have hp0 : (0 : Int) ≤ (p : Int) := by omega
      have hq1 : (q : Int) < (l : Int) := by omega
      have hq0 : (0 : Int) ≤ (q : Int) := by omega
      have HX : Hid ((prW xs).take (j + 1) = (prW xs).take j ++ [(a.1 + b.1, a.2 ++ b.2)]) := by
        show _ = _
        rw [List.take_add_one, HPR.out]
        rfl
      have HQP := Lib.hid hqp
      clear ha hb hc hea heb haa hab hca hcb hqp hp hbB
      obtain ⟨x, y⟩ := a
      obtain ⟨x2, y2⟩ := b
      dsimp only at *
      have hwx : IntKind.i64.wrap ((x : Int) + (x2 : Int)) = ((x + x2 : Nat) : Int) := by rw [Int.natCast_add]; exact IntWalk.i64_in _ (by omega)
      go_wp2
      go_quiet (fail)
      obtain ⟨W, hW⟩ : ∃ W, wr.drewN nq = W := ⟨_, rfl⟩
      have HOW2 : Hid (W.ownsRow w.heap.size 42 4 (.slice A1 j c1) j cs1) := by show World.ownsRow _ _ _ _ _ _ _; rw [← hW]; exact HOWN.out
      have HB2 : Hid (Below w.heap.size w W) := by show Below _ _ _; rw [← hW]; exact dnBelow HBEL.out nq
      have HB3 : Hid (Below wr.heap.size wr W) := by show Below _ _ _; rw [← hW]; exact dnBelow (Below.refl _ _) nq
      have e0 : W.cell? ⟨bb, o + p * 4, none⟩ = some (.int .i64 (x : Int)) := by rw [← hW]; exact d0
      have e1 : W.cell? ⟨bb, o + q * 4, none⟩ = some (.int .i64 (x2 : Int)) := by rw [← hW]; exact d1
      rw [hW]
      clear hW d0 d1
      go_wp2
      go_region_law (refine step_app1 W elElem (by rfl) (.tmp 20) (.tmp 33) (by rfl) w.heap.size (.slice A1 j c1) j cs1 (by rfl) HOW2.out _ (by rfl) (by rfl) (by simp [Value.oneCell']) (by unfold maxLen; omega) (by omega) HB2.out.size ?_; intro A2 c2 w7 hA; have HA := Lib.hid hA; clear hA)
      all_goals
        go_wp2
        go_roundg (gk - 1)
        case measure => omega
        case rel =>
          have HB7 : Below w.heap.size wr w7 := HA.out.below (HB3.out.mono HBEL.out.size) HB2.out.size (own_base HOW2.out)
          refine ⟨j + 1, q + 2, by omega, by have := HQ.out; omega, by have := HQ.out; omega, by go_num, A2, c2, _, rfl, HA.out.own, ?_, HA.out.below HB2.out HB2.out.size (own_base HOW2.out)⟩
          rw [HX.out]
          exact (HROW.out.below HB7 hB (Nat.le_refl _)).snoc (HE.out.below HB7 hB (Nat.le_refl _))
    · have hj2 : (prW xs).length ≤ j := by rw [prW_len, HL.out]; have := HQ.out; omega
      have HJ : Hid (j = l / 2) := by show _ = _; have := HQ.out; omega
      have HT : Hid ((prW xs).take j = prW xs) := List.take_of_length_le hj2
      clear hj2
      go_wp2
      go_ret
      exact ⟨A1, j, c1, cs1, rfl, HJ.out, HOWN.out, by have := HROW.out; rwa [HT.out] at this, HBEL.out⟩
end Go.Proofs.Ytbhkaofgljpekaa
