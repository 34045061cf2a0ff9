/- The reference's bytes and their sum. -/
import Derived.Test.YtchdmbjjdifggaaKSeal
import Derived.Test.YtchdmbjjdifggaaKFieldR
import Derived.Lib.SmallJoins
namespace Go.Proofs.Ytchdmbjjdifggaa
open Go.RowKit CrcP FieldP

set_option maxHeartbeats 1000000 in
theorem summed_any (A : Option Addr) (l c : Nat) (bs : List UInt8) (w : World) (hl : bs.length = l) (hm : l ≤ 1099511627776) (hb : Bytes w w.heap.size A bs) :
    Calls Try.prog 28 #[.slice A l c] w fun e w' => ∃ A' c', e = .returned (.slice A' (l + 4) c') ∧ OwnY w' w.heap.size (.slice A' (l + 4) c') (l + 4) (sealed bs) ∧ Below w.heap.size w w' := by
  have HL := Lib.hid hl
  have HB : Hid (Bytes w w.heap.size A bs) := hb
  clear hl hb
  have HCL : Hid ((byteCells bs).length = l) := by show _ = _; rw [byteCells_length, HL.out]
  have HB1 := Lib.hid (((Below.refl w.heap.size w).alloc (Nat.le_refl _) (.cells #[] 5)))
  have HO1 := Lib.hid (OwnT.of (own_empty w 5 (base := w.heap.size) (Nat.le_refl _)))
  have HBS1 := Lib.hid (Cells.alloc HB.out (Nat.le_refl _) (.cells #[] 5))
  have hlt := sumN_lt bs
  have HD : Hid (sealed bs = bs ++ putN (sumN bs) 4) := rfl
  go_enter Try.func28, Try.ntmps28
  go_wp2_with (at_builtin; refine wpList_appT _ byteElem rfl (.tmp 3) (.tmp 4) rfl w.heap.size (.slice (some ⟨w.heap.size, 0, none⟩) 0 0) 0 [] rfl HO1.out w.heap.size A l c (byteCells bs) rfl HCL.out HBS1.out (byteCells_one _) (by unfold maxLen; omega) (by omega) HB1.out.size ?_; intro A1 c1 w1 hA; have HA := Lib.hid hA; clear hA)
  have HBEL := Lib.hid (HA.out.below HB1.out HB1.out.size (fun k hk => (HO1.out.lt k hk).1))
  have HS := Lib.hid (refSum_any A l c bs w.heap.size w1 HL.out (by omega) (HB.out.below HBEL.out (Nat.le_refl _)))
  have HP := Lib.hid (refPut_any (sumN bs : Nat) 4 w1 (by omega) (by omega) (by omega) (by omega))
  rw [Int.toNat_natCast, cnt4] at HP
  generalize sumN bs = s at *
  go_wp2_with fail
  refine HS.out.mono ?_
  rintro e w' ⟨rfl, rfl⟩
  go_wp2_with fail
  refine HP.out.mono ?_
  rintro e w2 ⟨A2, c2, rfl, hown, hbel⟩
  have HO2 := Lib.hid (OwnT.of hown)
  have HM2 := Lib.hid hbel
  clear hown hbel
  have HO3 := Lib.hid (HA.out.own.keep (Mod.of_below HM2.out) (fun _ _ h => h))
  have HB3 := Lib.hid (HBEL.out.trans (HM2.out.mono HBEL.out.size))
  have HC2 := Lib.hid HO2.out.cells
  have HPL : Hid ((byteCells (putN s 4)).length = 4) := by show _ = _; rw [byteCells_length, putN_length]
  simp only [Nat.zero_add, List.nil_append] at HO3
  go_wp2_with (at_builtin; refine wpList_appT _ byteElem rfl (.tmp 5) (.tmp 8) rfl w.heap.size (.slice A1 (0 + l) c1) l (byteCells bs) (by rw [Nat.zero_add]; rfl) (by rw [Nat.zero_add]; exact HO3.out) w2.heap.size A2 4 c2 (byteCells (putN s 4)) rfl HPL.out HC2.out (byteCells_one _) (by unfold maxLen; omega) (by omega) HB3.out.size ?_; intro A3 c3 w3 hA; have HA3 := Lib.hid hA; clear hA)
  go_ret
  refine ⟨A3, c3, rfl, ?_, HA3.out.below HB3.out HB3.out.size (fun k hk => (HO3.out.lt k (by rw [Nat.zero_add] at hk; exact hk)).1)⟩
  rw [HD.out]
  have := HA3.out.own
  rwa [← byteCells_append] at this
end Go.Proofs.Ytchdmbjjdifggaa
