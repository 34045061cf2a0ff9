/- Layer 14: codec.Pieces of the bytes 0 0, whole. -/
import Derived.Test.YtnccbnadfgilaaaDcPc
namespace Go.Proofs.Ytnccbnadfgilaaa
open Go.RowKit Go.Shelf CrcP FieldP

theorem below_drewN' {B : Nat} {w w' : World} (h : Below B w w') (n : Nat) : Below B w (w'.drewN n) := ⟨h.os, h.tape, h.output, h.size, h.block⟩
set_option maxRecDepth 100000 in
set_option maxHeartbeats 2000000 in
theorem piecesOf_zz (A : Option Addr) (c B : Nat) (w : World) (hc : 2 ≤ c) (hb : Bytes w B A [0, 0]) (hB : B ≤ w.heap.size) :
    Calls Try.prog 32 #[.slice A 2 c] w fun e w' => e = .returned (.tuple #[.slice none 0 0, .int .i64 0]) ∧ Below w.heap.size w w' := by
  have HB0 := Lib.hid hb
  have HBZ := Lib.hid hB
  have HC0 := Lib.hid hc
  clear hb hB hc
  refine (callsIn_wide (n := 6)).1 ?_
  refine callsIn_of_wp_marks Try.func32 rfl trivial ?_ rfl
  simp only [Try.ntmps32, List.size_toArray, List.length_cons, List.length_nil, Nat.reduceAdd, Nat.reduceSub, Array.replicate_succ, Array.replicate_zero, List.push_toArray, List.append_toArray, List.nil_append, List.cons_append]
  gi_wp2_with (first
    | (refine ⟨trivial, ?_⟩; gi_at_call 27; refine (callsIn_wide.2 (new_any A 2 c w)).mono ?_; rintro e w1 ⟨rfl, hw1⟩; have HW1 := Lib.hid hw1; clear hw1)
    | (refine ⟨trivial, ?_⟩; gi_at_call 44; refine (callsIn_wide.2 (pieces_any _ _)).mono ?_; rintro e w3 ⟨rfl, hw3⟩; have HW3 := Lib.hid hw3; clear hw3))
  have hz1 : w1.heap.size = w.heap.size + 1 := by rw [← HW1.out]; simp
  have hz3 : w3.heap.size = w.heap.size + 3 := by rw [← HW3.out]; simp [hz1]
  have hr1 : RdS w1 w.heap.size A 2 c ⟨0, false⟩ := by rw [← HW1.out]; exact rd_new A 2 c w
  have hb1 : Below w.heap.size w w1 := by rw [← HW1.out]; exact (Below.refl _ w).alloc (Nat.le_refl _) _
  have hb13 : Below w1.heap.size w1 w3 := by rw [← HW3.out]; exact ((Below.refl _ w1).alloc (Nat.le_refl _) _).alloc (by simp) _
  have HR3 : Hid (RdS w3 w.heap.size A 2 c ⟨0, false⟩) := Rd.below hr1 hb13 (by omega)
  have HC3 : Hid (Box w3 w1.heap.size #[.slice none 0 0] 22) := by rw [← HW3.out]; exact Box.alloc (heap_alloc_new w1 _) _
  have HX3 : Hid (Box w3 (w1.heap.size + 1) #[.pointer (some ⟨w.heap.size, 0, none⟩)] 61) := by
    rw [← HW3.out]
    have h := heap_alloc_new (w1.alloc (.cells #[.slice none 0 0] 22)) (.cells #[.pointer (some ⟨w.heap.size, 0, none⟩)] 61)
    rw [World.size_alloc] at h
    exact h
  have HL3 : Hid (Below w.heap.size w w3) := hb1.trans (hb13.mono (by omega))
  have HZ1 := Lib.hid hz1
  have HZ3 := Lib.hid hz3
  clear hz1 hz3 hr1 hb1 hb13 HW1 HW3
  refine wpIn_rangeFunc_none rfl (by omega) (gf := 54) (lb := #[.pointer (some ⟨w1.heap.size + 1, 0, none⟩)]) rfl trivial (enters_of Try.func54 (by kernel_rfl) rfl)
    (R := fun W => RdS W w.heap.size A 2 c ⟨2, false⟩ ∧ Box W w1.heap.size #[.slice none 0 0] 22 ∧ Below w.heap.size w W) ?call ?done
  case call =>
    intro o W ho hW
    have hz1 := HZ1.out
    have hz3 := HZ3.out
    have hbw : Below w3.heap.size w3 W := by rw [← hW]; exact ((Below.refl _ w3).alloc (Nat.le_refl _) _).alloc (by simp) _
    have hzw : W.heap.size = w3.heap.size + 2 := by rw [← hW]; simp
    have hbw2 : Below w.heap.size w W := HL3.out.trans (hbw.mono (by omega))
    refine (callsIn_wide.2 (pieces1_none _ w.heap.size (w1.heap.size + 1) A c B W (HX3.out.below hbw (by omega)) (Rd.below HR3.out hbw (by omega)) HC0.out (Cells.below HB0.out hbw2 HBZ.out) (Nat.le_trans HBZ.out hbw2.size) HBZ.out (by omega))).mono ?_
    rintro e W' ⟨rfl, hr, hn⟩
    have hn' : Below w.heap.size W W' := ⟨hn.os, hn.tape, hn.output, hn.size, fun k hk => hn.block k (by omega) (by simp; omega)⟩
    refine ⟨⟨_, rfl⟩, ⟨hr, ?_, hbw2.trans hn'⟩, hn.block _ (by omega) (by simp; omega), hn.block _ (by omega) (by simp; omega)⟩
    exact (hn.block _ (by omega) (by simp; omega)).trans (HC3.out.below hbw (by omega))
  case done =>
    rintro W o o' ⟨hr, hbx, hbl⟩ hd hl ho
    have hz1 := HZ1.out
    have hz3 := HZ3.out
    obtain ⟨W4, hW4⟩ : ∃ W4, W.putObj (w3.heap.size + 1) o' = W4 := ⟨_, rfl⟩
    have hoth : ∀ k, k ≠ w3.heap.size + 1 → W4.heap[k]? = W.heap[k]? := fun k hk => by rw [← hW4]; exact World.putObj_heap_other (by omega)
    have hbl4 : Below w.heap.size w W4 := hbl.trans ⟨by rw [← hW4]; rfl, by rw [← hW4]; rfl, by rw [← hW4]; rfl, by rw [← hW4]; simp [World.putObj], fun k hk => hoth k (by omega)⟩
    have HR4 : Hid (RdS W4 w.heap.size A 2 c ⟨2, false⟩) := (hoth _ (by omega)).trans hr
    have HC4 : Hid (Box W4 w1.heap.size #[.slice none 0 0] 22) := (hoth _ (by omega)).trans hbx
    have HD4 : Hid (W4.heap[w3.heap.size]? = some (.deferred (some []))) := (hoth _ (by omega)).trans hd
    have HL4 := Lib.hid hbl4
    have HOK := Lib.hid (ok_any w.heap.size A 2 c 2 false W4 HR4.out)
    have HLF := Lib.hid (left_any w.heap.size A 2 c 2 false W4 HR4.out (by omega) (by omega) (by omega))
    have hx5 : ∀ n, (W4.drewN n).cell? ⟨w1.heap.size, 0, none⟩ = some (.slice none 0 0) := fun n => HC4.out.cell 0
    rw [hW4]
    clear hr hbx hbl hd hl ho hoth hbl4 hW4 hz1 hz3 HB0 HBZ HC0 HR3 HC3 HX3 HL3
    gi_wp2_with (first
      | (refine ⟨trivial, ?_⟩; gi_at_call 31; refine (callsIn_wide.2 HOK.out).mono ?_; rintro e w5 ⟨rfl, rfl⟩)
      | (refine ⟨trivial, ?_⟩; gi_at_call 45; refine (callsIn_wide.2 HLF.out).mono ?_; rintro e w6 ⟨rfl, nq, rfl⟩; have hx6 := hx5 nq))
    refine ⟨by simp, .inl ⟨_, _, rfl, run_takeDeferred (show (W4.drewN nq).heap[w3.heap.size]? = _ from HD4.out), ?_⟩⟩
    refine ⟨.tuple #[.slice none 0 0, .int .i64 0], by simp [results, Try.f32, go_sem], rfl, (below_drewN' HL4.out nq).trans (belowK_b (w := w) (Nat.le_refl _) _ w3.heap.size _ _ (by have := HZ3.out; omega) (show (W4.drewN nq).heap[w3.heap.size]? = _ from HD4.out) rfl rfl)⟩
end Go.Proofs.Ytnccbnadfgilaaa
