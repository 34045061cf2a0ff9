/- Layer 35: one token by chains. -/
import Derived.Test.YtglbmghpkipipaaChLaw
import Derived.Test.YtglbmghpkipipaaTkSplit
namespace Go.Proofs.Ytglbmghpkipipaa
open Go.RowKit Go.Shelf

set_option maxHeartbeats 2000000 in
theorem ctoken_any (g g0 : Nat) (A : Option Addr) (l c : Nat) (bs : List UInt8) (p : Nat) (lv : Int) (B : Nat) (w : World) (hl : bs.length = l) (hm : l ≤ 2000) (hp : p < l) (hb : Bytes w B A bs) (hB : B ≤ w.heap.size) (hf : LCh w g g0 A l c bs) :
    Calls Try.prog 23 #[.pointer (some ⟨g, 0, none⟩), .int .i64 (p : Int), .int .i64 lv] w fun e w' => e = .returned (tkV (tokAt bs lv p)) ∧ Below w.heap.size w w' := by
  obtain ⟨W1, hW1⟩ : ∃ W1, w.alloc (.cells #[.int .u8 0, .int .i64 0, .int .i64 0] 32) = W1 := ⟨_, rfl⟩
  have HB1 : Hid (Below w.heap.size w W1) := by show Below _ _ _; rw [← hW1]; exact (Below.refl _ w).alloc (Nat.le_refl _) _
  have hx1 : W1.heap[w.heap.size]? = some (.cells #[.int .u8 0, .int .i64 0, .int .i64 0] 32) := by rw [← hW1]; exact heap_alloc_new w _
  have hg := (Array.getElem?_eq_some_iff.1 hf.1).1
  have HD := Lib.hid (fun W => depth_any lv W)
  have hdb := depthN_bd lv
  have HF := Lib.hid (fun (m : Nat) (a : Int) => cfind_any g g0 l c A bs a (depthN lv) B (W1.drewN m) hl hm (hb.below (belowDrewN HB1.out m) hB) ((hf.below HB1.out).drewN m) (by omega))
  obtain ⟨n, hn⟩ : ∃ n, (bestM bs (p : Int) (depthN lv)).1 = n := ⟨_, rfl⟩
  obtain ⟨d, hd⟩ : ∃ d, (bestM bs (p : Int) (depthN lv)).2 = d := ⟨_, rfl⟩
  obtain ⟨m, hmm⟩ : ∃ m, (bestM bs ((p + 1 : Nat) : Int) (depthN lv)).1 = m := ⟨_, rfl⟩
  obtain ⟨m', hmm'⟩ : ∃ m', (bestM bs ((p + 1 : Nat) : Int) (depthN lv)).2 = m' := ⟨_, rfl⟩
  have HT : Hid (tokAt bs lv p = if n = 0 ∨ (1 < lv ∧ n < 258 ∧ n < m) then (bs.getD p 0, 0, 0) else (0, n, d)) := by show _ = _; rw [tokAt, hn, hd, hmm]
  have HF1 := Lib.hid (HF.out 0 (p : Int))
  have HF2 := Lib.hid (fun q => HF.out q ((p + 1 : Nat) : Int))
  rw [hn, hd] at HF1
  rw [hmm, hmm'] at HF2
  obtain ⟨b, o, rfl, hbB, hc⟩ := hb (by rw [byteCells_length]; omega)
  obtain ⟨x, hx⟩ : ∃ x, bs[p]? = some x := ⟨_, List.getElem?_eq_getElem (by omega)⟩
  have y0 : W1.cell? ⟨b, o + p, none⟩ = some (.int .u8 (x.toNat : Int)) := (HB1.out.cell (p := ⟨b, o + p, none⟩) (by show b < _; omega)).trans (hc _ _ (byteCells_get hx))
  have yc : W1.cell? ⟨g, 0, none⟩ = some (.slice (some ⟨b, o, none⟩) l c) := cell_of_row W1 g 0 _ _ _ ((HB1.out.block g hg).trans hf.1)
  have z0 := cell_of_row W1 w.heap.size 0 _ _ _ hx1
  have z1 := cell_of_row W1 w.heap.size 1 _ _ _ hx1
  have z2 := cell_of_row W1 w.heap.size 2 _ _ _ hx1
  have f0 := frozen_of_row W1 w.heap.size 0 _ _ hx1
  have f1 := frozen_of_row W1 w.heap.size 1 _ _ hx1
  have f2 := frozen_of_row W1 w.heap.size 2 _ _ hx1
  have hgx : bs.getD p 0 = x := by rw [List.getD, hx]; rfl
  rw [hgx] at HT
  clear hn hd hmm hmm' hc hx hgx hf hdb HF hx1 hbB
  have hend : ∀ (q : Nat) (y0 y1 y2 : Value), Below w.heap.size w ((((W1.drewN q).setCell ⟨w.heap.size, 0, none⟩ y0).setCell ⟨w.heap.size, 1, none⟩ y1).setCell ⟨w.heap.size, 2, none⟩ y2) := fun q y0 y1 y2 =>
    (((belowDrewN HB1.out q).setCell (p := ⟨w.heap.size, 0, none⟩) (Nat.le_refl _) _).setCell (p := ⟨w.heap.size, 1, none⟩) (Nat.le_refl _) _).setCell (p := ⟨w.heap.size, 2, none⟩) (Nat.le_refl _) _
  have HEND := Lib.hid hend
  clear hend
  by_cases hz : n = 0
  · have HT2 : Hid (tokAt bs lv p = (x, 0, 0)) := by show _ = _; rw [HT.out, if_pos (.inl hz)]
    have tz : ((n : Int) == 0) = true := by simp [hz]
    have tz' : (n == 0) = true := by simp [hz]
    have tp : decide ((0 : Int) < (n : Int)) = false := decide_eq_false (by omega)
    have tp' : decide (0 < n) = false := decide_eq_false (by omega)
    clear hz
    go_enter Try.func23, Try.ntmps23
    go_wp2_with (first
      | (go_at_call 12; refine (HD.out _).mono ?_; rintro e w' ⟨rfl, rfl⟩)
      | (go_at_call 14; refine HF1.out.mono ?_; rintro e w5 ⟨rfl, q1, rfl⟩))
    refine bodyPost_ret (v := tkV (x, 0, 0)) (by simp [results, Try.f23, go_sem, z0, z1, z2, tkV]) rfl ⟨by rw [HT2.out], ?_⟩
    exact HEND.out _ _ _ _
  · have tz : ((n : Int) == 0) = false := by simp; omega
    have tz' : (n == 0) = false := by simp; omega
    have tp : decide ((0 : Int) < (n : Int)) = true := decide_eq_true (by omega)
    have tp' : decide (0 < n) = true := decide_eq_true (by omega)
    by_cases hr : 1 < lv
    · have tr : decide ((2 : Int) ≤ lv) = true := decide_eq_true (by omega)
      by_cases h258 : n < 258
      · have t2 : decide ((n : Int) < 258) = true := decide_eq_true (by omega)
        have t2' : decide (n < 258) = true := decide_eq_true h258
        by_cases hnm : n < m
        · have t3 : decide ((n : Int) < (m : Int)) = true := decide_eq_true (by omega)
          have t3' : decide (n < m) = true := decide_eq_true hnm
          have HT2 : Hid (tokAt bs lv p = (x, 0, 0)) := by show _ = _; rw [HT.out, if_pos (.inr ⟨hr, h258, hnm⟩)]
          clear hnm hr hz h258
          go_enter Try.func23, Try.ntmps23
          go_wp2_with (first
            | (go_at_call 12; refine (HD.out _).mono ?_; rintro e w' ⟨rfl, rfl⟩)
            | (go_at_call 14; refine HF1.out.mono ?_; clear HF1; rintro e w5 ⟨rfl, q1, rfl⟩)
            | (go_at_call 14; refine (HF2.out _).mono ?_; clear HF2; rintro e w5 ⟨rfl, q2, rfl⟩))
          refine bodyPost_ret (v := tkV (x, 0, 0)) (by simp [results, Try.f23, go_sem, z0, z1, z2, tkV]) rfl ⟨by rw [HT2.out], ?_⟩
          exact HEND.out _ _ _ _
        · have t3 : decide ((n : Int) < (m : Int)) = false := decide_eq_false (by omega)
          have t3' : decide (n < m) = false := decide_eq_false hnm
          have HT2 : Hid (tokAt bs lv p = (0, n, d)) := by show _ = _; rw [HT.out, if_neg (by omega)]
          clear hnm hr hz h258
          go_enter Try.func23, Try.ntmps23
          go_wp2_with (first
            | (go_at_call 12; refine (HD.out _).mono ?_; rintro e w' ⟨rfl, rfl⟩)
            | (go_at_call 14; refine HF1.out.mono ?_; clear HF1; rintro e w5 ⟨rfl, q1, rfl⟩)
            | (go_at_call 14; refine (HF2.out _).mono ?_; clear HF2; rintro e w5 ⟨rfl, q2, rfl⟩))
          refine bodyPost_ret (v := tkV (0, n, d)) (by simp [results, Try.f23, go_sem, z0, z1, z2, tkV]) rfl ⟨by rw [HT2.out], ?_⟩
          exact HEND.out _ _ _ _
      · have t2 : decide ((n : Int) < 258) = false := decide_eq_false (by omega)
        have t2' : decide (n < 258) = false := decide_eq_false h258
        have HT2 : Hid (tokAt bs lv p = (0, n, d)) := by show _ = _; rw [HT.out, if_neg (by omega)]
        clear hr hz h258
        go_enter Try.func23, Try.ntmps23
        go_wp2_with (first
          | (go_at_call 12; refine (HD.out _).mono ?_; rintro e w' ⟨rfl, rfl⟩)
          | (go_at_call 14; refine HF1.out.mono ?_; rintro e w5 ⟨rfl, q1, rfl⟩))
        refine bodyPost_ret (v := tkV (0, n, d)) (by simp [results, Try.f23, go_sem, z0, z1, z2, tkV]) rfl ⟨by rw [HT2.out], ?_⟩
        exact HEND.out _ _ _ _
    · have tr : decide ((2 : Int) ≤ lv) = false := decide_eq_false (by omega)
      have HT2 : Hid (tokAt bs lv p = (0, n, d)) := by show _ = _; rw [HT.out, if_neg (by omega)]
      clear hr hz
      go_enter Try.func23, Try.ntmps23
      go_wp2_with (first
        | (go_at_call 12; refine (HD.out _).mono ?_; rintro e w' ⟨rfl, rfl⟩)
        | (go_at_call 14; refine HF1.out.mono ?_; rintro e w5 ⟨rfl, q1, rfl⟩))
      refine bodyPost_ret (v := tkV (0, n, d)) (by simp [results, Try.f23, go_sem, z0, z1, z2, tkV]) rfl ⟨by rw [HT2.out], ?_⟩
      exact HEND.out _ _ _ _
end Go.Proofs.Ytglbmghpkipipaa
