/- Layer 35: the chapter's example; the laws ChainHashes, ChainFinds. -/
import Derived.Test.YtglbmghpkipipaaChRef
import Derived.Test.YtglbmghpkipipaaChBest
import Derived.Lib.SmallJoins
namespace Go.Proofs.Ytglbmghpkipipaa
open Go.RowKit

theorem belowDrewN {B : Nat} {a w : World} (h : Below B a w) (n : Nat) : Below B a (w.drewN n) := ⟨h.os, h.tape, h.output, h.size, h.block⟩
theorem bestLC : bestM [97, 98, 99, 97, 98, 99] 3 1 = (3, 3) := by decide
theorem prevL : prevI [97, 98, 99, 97, 98, 99] 3 = 1 := by decide
set_option maxHeartbeats 400000 in
theorem lives35_any (w : World) : Calls Try.prog 5 #[] w fun e w' => e = .returned (.bool true) ∧ Below w.heap.size w w' := by
  obtain ⟨W1, hW1⟩ : ∃ W1, w.alloc (.cells #[.int .u8 97, .int .u8 98, .int .u8 99, .int .u8 97, .int .u8 98, .int .u8 99] 5 (6, 7)) = W1 := ⟨_, rfl⟩
  have kc : (convert 22 22 (.slice (some ⟨w.heap.size, 0, none⟩) 6 6)).run Try.prog (w.alloc (.cells #[.int .u8 97, .int .u8 98, .int .u8 99, .int .u8 97, .int .u8 98, .int .u8 99] 5)) = .ok (.slice (some ⟨w.heap.size, 0, none⟩) 6 6) W1 := by
    rw [← hW1]
    exact Joins.run_convert_bytes_const_at (P := Try.prog) w 22 5 _ 6 6 w.heap.size rfl Try.underlying22 Try.underlying5
  have HBY : Hid (Bytes W1 (w.heap.size + 1) (some ⟨w.heap.size, 0, none⟩) [97, 98, 99, 97, 98, 99]) := by
    show Cells _ _ _ _
    rw [← hW1]
    exact bytes_new w 5 (6, 7) [97, 98, 99, 97, 98, 99] _ (by simp) w.heap.size (w.heap.size + 1) rfl (by omega)
  have HZ1 : Hid (W1.heap.size = w.heap.size + 1) := by show _ = _; rw [← hW1]; simp
  have HB1 : Hid (Below w.heap.size w W1) := by show Below _ _ _; rw [← hW1]; exact (Below.refl _ w).alloc (Nat.le_refl _) _
  clear hW1
  obtain ⟨A, hA⟩ : ∃ A : Option Addr, some ⟨w.heap.size, 0, none⟩ = A := ⟨_, rfl⟩
  have kc2 : (convert 22 22 (.slice (some ⟨w.heap.size, 0, none⟩) 6 6)).run Try.prog (w.alloc (.cells #[.int .u8 97, .int .u8 98, .int .u8 99, .int .u8 97, .int .u8 98, .int .u8 99] 5)) = .ok (.slice A 6 6) W1 := by rw [← hA]; exact kc
  rw [hA] at HBY
  clear kc hA
  obtain ⟨bs, hbs⟩ : ∃ bs : List UInt8, [97, 98, 99, 97, 98, 99] = bs := ⟨_, rfl⟩
  have p1 := prevL
  have p2 := bestLC
  have hl6 : bs.length = 6 := by rw [← hbs]; rfl
  rw [hbs] at HBY p1 p2
  clear hbs
  have HNE := Lib.hid (cnew_any A 6 6 bs (w.heap.size + 1) W1 hl6 (by decide) HBY.out (by have := HZ1.out; omega))
  have HPR := Lib.hid (fun (g g0 : Nat) (W : World) (h : LCh W g g0 A 6 6 bs) => prev_any g g0 6 6 A bs 3 W hl6 (by decide) h)
  have HFI := Lib.hid (fun (g g0 B : Nat) (W : World) (h : LCh W g g0 A 6 6 bs) (hb : Bytes W B A bs) => cfind_any g g0 6 6 A bs 3 1 B W hl6 (by decide) hb h (by decide))
  rw [p1] at HPR
  rw [p2] at HFI
  clear p1 p2
  generalize hN1 : W1.heap.size = N1 at *
  clear hN1
  go_enter Try.func5, Try.ntmps5
  go_wp2_with (first
    | (go_at_call 7; refine HNE.out.mono ?_; rintro e w2 ⟨rfl, hch, hb2⟩; have HCH := Lib.hid hch; have HB2 := Lib.hid hb2; clear hch hb2)
    | (go_at_call 17; refine (HPR.out _ _ _ HCH.out).mono ?_; rintro e w3 ⟨rfl, rfl⟩)
    | (go_at_call 14; refine (HFI.out _ _ (w.heap.size + 1) _ HCH.out (HBY.out.below (HB2.out.mono (by have := HZ1.out; omega)) (Nat.le_refl _))).mono ?_; rintro e w4 ⟨rfl, m4, rfl⟩))
  go_ret
  exact ⟨rfl, belowDrewN (HB1.out.trans (HB2.out.mono (by have := HZ1.out; omega))) m4⟩
end Go.Proofs.Ytglbmghpkipipaa
