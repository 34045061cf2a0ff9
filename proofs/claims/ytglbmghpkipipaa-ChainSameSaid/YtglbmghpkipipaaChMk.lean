/- Layer 35: New: chains of any bytes. -/
import Derived.Test.YtglbmghpkipipaaChNew
import Derived.Deep.RegionHeld3
import Derived.Deep.WholeRow
import Derived.BigQuiet
import Derived.Deep.DrawnRows
import Derived.Deep.LoopGhost
import Derived.Deep.RegionLaw
namespace Go.Proofs.Ytglbmghpkipipaa
open Go.RowKit

theorem heads_new (w : World) (bs : List UInt8) : IntB (w.alloc (.cells (Array.replicate 4096 (.int .i64 0)) 51)) 51 w.heap.size (headL bs 0) := by
  have e : Array.replicate 4096 (Value.int .i64 0) = ((headL bs 0).map ic).toArray := by
    rw [headL_zero, List.map_replicate]
    apply Array.toList_inj.1
    rw [Array.toList_replicate]
    rfl
  unfold IntB
  rw [e]
  exact heap_alloc_new w _
set_option maxRecDepth 100000 in
set_option maxHeartbeats 2000000 in
theorem cnew_any (A : Option Addr) (l c : Nat) (bs : List UInt8) (B : Nat) (w : World) (hl : bs.length = l) (hm : l ≤ 2000) (hb : Bytes w B A bs) (hB : B ≤ w.heap.size) :
    Calls Try.prog 7 #[.slice A l c] w fun e w' => e = .returned (.pointer (some ⟨w.heap.size + 1, 0, none⟩)) ∧ LCh w' (w.heap.size + 1) w.heap.size A l c bs ∧ Below w.heap.size w w' := by
  obtain ⟨hz, hi⟩ := zero_of_info headInfo
  have HL := Lib.hid hl
  have HBY := Lib.hid hb
  have HB := Lib.hid hB
  have mk0 := make_ints l (by omega)
  obtain ⟨W2, hW2⟩ : ∃ W2, (w.alloc (.cells (madeCells #[.int .i64 0] l) 3)).alloc (.cells #[.slice A l c, .slice (some ⟨w.heap.size, 0, none⟩) l l] 50) = W2 := ⟨_, rfl⟩
  have HZ2 : Hid (W2.heap.size = w.heap.size + 2) := by show _ = _; rw [← hW2]; simp
  have HG0 : Hid (IntB W2 3 w.heap.size (behL bs l 0)) := by
    show IntB _ _ _ _
    rw [← hW2, behL_zero]
    exact (Below.heap_alloc _ _ _ (by simp)).trans (made_ints w l)
  have HG1 : Hid (W2.heap[w.heap.size + 1]? = some (.cells #[.slice A l c, .slice (some ⟨w.heap.size, 0, none⟩) l l] 50)) := by
    show _ = _
    rw [← hW2]
    have h := heap_alloc_new (w.alloc (.cells (madeCells #[.int .i64 0] l) 3)) (.cells #[.slice A l c, .slice (some ⟨w.heap.size, 0, none⟩) l l] 50)
    rwa [World.size_alloc] at h
  have HB2 : Hid (Below w.heap.size w W2) := by show Below _ _ _; rw [← hW2]; exact ((Below.refl _ w).alloc (Nat.le_refl _) _).alloc (by simp) _
  clear hb hB hl
  go_enter Try.func7, Try.ntmps7
  go_wp2_with fail
  have HG2 := Lib.hid (heads_new W2 bs)
  have HA3 : Hid (∀ o : Obj, IntB (W2.alloc o) 3 w.heap.size (behL bs l 0) ∧ (W2.alloc o).heap[w.heap.size + 1]? = some (.cells #[.slice A l c, .slice (some ⟨w.heap.size, 0, none⟩) l l] 50) ∧ Below w.heap.size w (W2.alloc o)) := fun o => by
    have hz := HZ2.out
    exact ⟨(Below.heap_alloc W2 o _ (by omega)).trans HG0.out, (Below.heap_alloc W2 o _ (by omega)).trans HG1.out, HB2.out.alloc (by omega) _⟩
  go_loopg [5] (l - 2) (fun gk i wr => ∃ p : Nat, p + gk = l - 2 ∧ i = .int .i64 p ∧ IntB wr 3 w.heap.size (behL bs l p) ∧ wr.heap[w.heap.size + 1]? = some (.cells #[.slice A l c, .slice (some ⟨w.heap.size, 0, none⟩) l l] 50) ∧
    IntB wr 51 W2.heap.size (headL bs p) ∧ Below w.heap.size w wr)
  case atStart => exact ⟨0, by omega, rfl, (HA3.out _).1, (HA3.out _).2.1, HG2.out, (HA3.out _).2.2⟩
  case round =>
    obtain ⟨p, hp, rfl, g0, g1, g2, hbl⟩ := hrel
    have HHA := Lib.hid (hashed_any (w.heap.size + 1) l c A _ (p : Int) wr (by omega) g1)
    have HBL := Lib.hid hbl
    have HI0 := Lib.hid g0
    have HI1 := Lib.hid g1
    have HI2 := Lib.hid g2
    by_cases h : gk = 0
    · obtain rfl : p = l - 2 := by omega
      have hbg : begC l ((l - 2 : Nat) : Int) = false := by
        cases hb : begC l ((l - 2 : Nat) : Int) with
        | false => rfl
        | true => have := begC_yes hb; omega
      rw [hbg] at HHA
      clear g0 g1 g2 hbl hbg
      go_wp2_with (go_at_call 20; refine HHA.out.mono ?_; rintro e w' ⟨rfl, rfl⟩)
      go_ret
      exact ⟨rfl, ⟨HI1.out, HI0.out⟩, HBL.out⟩
    · have hbg : begC l (p : Int) = true := begC_true (by omega)
      rw [hbg] at HHA
      obtain ⟨x0, hx0⟩ : ∃ x, bs[p]? = some x := ⟨_, List.getElem?_eq_getElem (by have := HL.out; omega)⟩
      obtain ⟨x1, hx1⟩ : ∃ x, bs[p + 1]? = some x := ⟨_, List.getElem?_eq_getElem (by have := HL.out; omega)⟩
      obtain ⟨x2, hx2⟩ : ∃ x, bs[p + 2]? = some x := ⟨_, List.getElem?_eq_getElem (by have := HL.out; omega)⟩
      obtain ⟨hh, hhv⟩ : ∃ hh, hv bs p = hh := ⟨_, rfl⟩
      have hlt : hh < 4096 := by rw [← hhv]; exact hv_lt _ _
      have hhash : hashN x0 x1 x2 = hh := by rw [← hhv, hv, List.getD, List.getD, List.getD, hx0, hx1, hx2]; rfl
      have HHS := Lib.hid (fun W => hash_any x0 x1 x2 W)
      rw [hhash] at HHS
      obtain ⟨b, o, rfl, hbB, hc⟩ := (HBY.out.below (HBL.out.mono HB.out) (Nat.le_refl _)) (by rw [byteCells_length, HL.out]; omega)
      have d0 : wr.cell? ⟨b, o + p, none⟩ = some (.int .u8 (x0.toNat : Int)) := hc _ _ (byteCells_get hx0)
      have d1 : wr.cell? ⟨b, o + (p + 1), none⟩ = some (.int .u8 (x1.toNat : Int)) := hc _ _ (byteCells_get hx1)
      have d2 : wr.cell? ⟨b, o + (p + 2), none⟩ = some (.int .u8 (x2.toNat : Int)) := hc _ _ (byteCells_get hx2)
      obtain ⟨bk, hbk⟩ : ∃ bk, back bs hh p = bk := ⟨_, rfl⟩
      have e0 : wr.cell? ⟨W2.heap.size, hh, none⟩ = some (.int .i64 (bk : Int)) := by rw [← hbk]; exact ib_cell g2 (headL_get bs p hlt)
      have e1 := cell_of_row wr (w.heap.size + 1) 1 _ _ _ g1
      have e2 : wr.cell? ⟨w.heap.size, p, none⟩ = some (.int .i64 0) := by
        refine ib_cell g0 ?_
        rw [behL_get bs l p (by omega), if_neg (by omega)]
      have f0 := ib_free g2 hh
      have f2 := ib_free g0 p
      have hpl : p < l := by omega
      have HS1 : Hid ((behL bs l p).set p (bk : Int) = behL bs l (p + 1)) := by show _ = _; rw [← hbk, ← hhv]; exact behL_step bs l p
      have HS2 : Hid ((headL bs p).set hh ((p + 1 : Nat) : Int) = headL bs (p + 1)) := by show _ = _; rw [← hhv]; exact headL_step bs p
      have hne : ¬ W2.heap.size = w.heap.size := by have := HZ2.out; omega
      have hne' : ¬ w.heap.size = W2.heap.size := by have := HZ2.out; omega
      have tw1 : IntKind.i64.wrap ((p : Int) + 1) = (p : Int) + 1 := IntWalk.i64_in _ (by omega)
      have tw2 : IntKind.i64.wrap ((p : Int) + 2) = (p : Int) + 2 := IntWalk.i64_in _ (by omega)
      have tl1 : (p : Int) + 1 < (l : Int) := by omega
      have tl2 : (p : Int) + 2 < (l : Int) := by omega
      have tn1 : ((p : Int) + 1).toNat = p + 1 := by omega
      have tn2 : ((p : Int) + 2).toNat = p + 2 := by omega
      have tz1 : (0 : Int) ≤ (p : Int) + 1 := by omega
      have tz2 : (0 : Int) ≤ (p : Int) + 2 := by omega
      clear g0 g1 g2 hbl hbg hx0 hx1 hx2 hhv hhash hc hbk
      go_wp2_with (go_at_call 20; refine HHA.out.mono ?_; rintro e w' ⟨rfl, rfl⟩)
      go_quiet ((go_at_call 21; exact quiet_left' (HHS.out _)))
      go_wp2
      go_region
      all_goals
        go_wp2
        go_roundg (gk - 1)
        case measure => omega
        case rel =>
          have hp1 : ((p : Int) + 1) = ((p + 1 : Nat) : Int) := by omega
          refine ⟨p + 1, by omega, by go_num, ?_, ?_, ?_, ?_⟩
          · rw [← HS1.out]
            exact ib_other (ib_set (show IntB (wr.drewN (nq + 1)) _ _ _ from HI0.out) p _) hne'
          · exact (Below.heap_setCell _ ⟨W2.heap.size, hh, none⟩ _ _ (by show w.heap.size + 1 ≠ W2.heap.size; have := HZ2.out; omega)).trans ((Below.heap_setCell (wr.drewN (nq + 1)) ⟨w.heap.size, p, none⟩ _ _ (by show w.heap.size + 1 ≠ w.heap.size; omega)).trans HI1.out)
          · rw [← HS2.out, hp1]
            exact ib_set (ib_other (show IntB (wr.drewN (nq + 1)) _ _ _ from HI2.out) hne) hh _
          · exact ((show Below w.heap.size w (wr.drewN (nq + 1)) from ⟨HBL.out.os, HBL.out.tape, HBL.out.output, HBL.out.size, HBL.out.block⟩).setCell (p := ⟨w.heap.size, p, none⟩) (Nat.le_refl _) _).setCell (p := ⟨W2.heap.size, hh, none⟩) (by show w.heap.size ≤ W2.heap.size; have := HZ2.out; omega) _
end Go.Proofs.Ytglbmghpkipipaa
