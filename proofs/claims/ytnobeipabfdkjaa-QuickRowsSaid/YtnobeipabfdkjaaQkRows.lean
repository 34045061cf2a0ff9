/- Layer 34: QuickRows walked. -/
import Derived.Test.YtnobeipabfdkjaaQkFind
import Derived.Test.YtnobeipabfdkjaaQkNil
namespace Go.Proofs.Ytnobeipabfdkjaa
open Go.RowKit Go.Maps BitsP

set_option maxRecDepth 100000 in
set_option maxHeartbeats 400000 in
theorem qrow_out (tb g m W cnt base : Nat) (x : Int) (q : QS) (blk : Nat → Nat) (D : DataW Unit) (w : World) (h : LT w tb g m W q blk D cnt base) (hW : W ≤ 15) (hx : x < 0 ∨ ((2 ^ W : Nat) : Int) ≤ x) :
    Calls Try.prog 16 #[.pointer (some ⟨tb, 0, none⟩), .int .i64 x] w fun e w' => e = .returned (.agg #[.int .i64 0, .int .i64 0, .bool false]) ∧ Below w.heap.size w w' := by
  have hp : (2 : Nat) ^ W ≤ 32768 := Nat.le_trans (Nat.pow_le_pow_right (by decide) hW) (by decide)
  obtain ⟨W1, hW1⟩ : ∃ W1, w.alloc (.cells #[.int .i64 0, .int .i64 0, .bool false] 35) = W1 := ⟨_, rfl⟩
  have HL1 : Hid (LT W1 tb g m W q blk D cnt base) := by show LT _ _ _ _ _ _ _ _ _ _; rw [← hW1]; exact h.alloc _
  have HB1 : Hid (Below w.heap.size w W1) := by show Below _ _ _; rw [← hW1]; exact (Below.refl _ w).alloc (Nat.le_refl _) _
  have hx1 := heap_alloc_new w (.cells #[.int .i64 0, .int .i64 0, .bool false] 35)
  rw [hW1] at hx1
  have x0 := cell_of_row W1 w.heap.size 0 _ _ _ hx1
  have x1 := cell_of_row W1 w.heap.size 1 _ _ _ hx1
  have x2 := cell_of_row W1 w.heap.size 2 _ _ _ hx1
  have f0 := frozen_of_row W1 w.heap.size 0 _ _ hx1
  have f1 := frozen_of_row W1 w.heap.size 1 _ _ hx1
  have f2 := frozen_of_row W1 w.heap.size 2 _ _ hx1
  have t1 := cell_of_row W1 tb 1 _ _ _ HL1.out.tab
  obtain ⟨N, hN⟩ : ∃ N, 2 ^ W = N := ⟨_, rfl⟩
  rw [hN] at t1 hp hx
  clear h hx1 hN
  by_cases h0 : x < 0
  · clear hx
    go_enter Try.func16, Try.ntmps16
    go_wp2
    refine bodyPost_ret (v := .agg #[.int .i64 0, .int .i64 0, .bool false]) (by simp [results, Try.results16, x0, x1, x2, go_sem]) rfl ⟨rfl, ?_⟩
    exact (((HB1.out.setCell (p := ⟨w.heap.size, 0, none⟩) (Nat.le_refl _) _).setCell (p := ⟨w.heap.size, 1, none⟩) (Nat.le_refl _) _).setCell (p := ⟨w.heap.size, 2, none⟩) (Nat.le_refl _) _)
  · have h1 : (N : Int) ≤ x := by omega
    clear hx
    go_enter Try.func16, Try.ntmps16
    go_wp2
    refine bodyPost_ret (v := .agg #[.int .i64 0, .int .i64 0, .bool false]) (by simp [results, Try.results16, x0, x1, x2, go_sem]) rfl ⟨rfl, ?_⟩
    exact (((HB1.out.setCell (p := ⟨w.heap.size, 0, none⟩) (Nat.le_refl _) _).setCell (p := ⟨w.heap.size, 1, none⟩) (Nat.le_refl _) _).setCell (p := ⟨w.heap.size, 2, none⟩) (Nat.le_refl _) _)
theorem wid_in (k : Int) : 1 ≤ wid k ∧ wid k ≤ 15 := by unfold wid; omega
set_option maxRecDepth 100000 in
set_option maxHeartbeats 400000 in
theorem qrows_any (A : Option Addr) (l c : Nat) (zs : List Int) (k n : Int) (w : World) (hl : zs.length = l) (hm : l ≤ 9223372036854775807) (hb : Cells w w.heap.size A (zs.map ic)) (hn : -9223372036854775808 ≤ n ∧ n ≤ 9223372036854775807) :
    Calls Try.prog 4 #[.slice A l c, .int .i64 k, .int .i64 n] w fun e w' => e = .returned (.bool true) ∧ Below w.heap.size w w' := by
  have HLV := Lib.hid lives34_any
  by_cases hl330 : 330 < l
  · have hd : decide ((330 : Int) < (l : Int)) = true := by simp; omega
    clear hl hb hn
    go_enter Try.func4, Try.ntmps4
    go_wp2_with (go_at_call 10; refine (HLV.out _).mono ?_; rintro e w4 ⟨rfl, hb4⟩; have HB4 := Lib.hid hb4; clear hb4)
    go_ret
    exact ⟨rfl, HB4.out⟩
  have hd : decide ((330 : Int) < (l : Int)) = false := by simp; omega
  cases hr : caR zs with
  | false =>
    have HRT := Lib.hid (ref8Right_any A l c zs w.heap.size w hl (by omega) hb)
    have HQN := Lib.hid (qnew_no A l c zs k _ w hl hm hb hr)
    rw [hr] at HRT
    clear hl hb hr hn
    go_enter Try.func4, Try.ntmps4
    go_wp2_with (first
      | (go_at_call 11; refine HQN.out.mono ?_; rintro e w3 ⟨rfl, rfl⟩)
      | (go_at_call 12; refine HRT.out.mono ?_; rintro e w1 ⟨rfl, rfl⟩)
      | (go_at_call 10; refine (HLV.out _).mono ?_; rintro e w4 ⟨rfl, hb4⟩; have HB4 := Lib.hid hb4; clear hb4))
    go_ret
    exact ⟨rfl, HB4.out⟩
  | true =>
    have h320 := (caR_len hr).1
    have HZS : Hid (∀ V, Below w.heap.size w V → Cells V V.heap.size A (zs.map ic)) := fun V hV => (hb.below hV (Nat.le_refl _)).more hV.size
    have HQN := Lib.hid (qnew_any A l c zs k w.heap.size w hl (by omega) hb (Nat.le_refl _) hr)
    have HRT : Hid (∀ V, Below w.heap.size w V → Calls Try.prog 12 #[.slice A l c] V fun e w' => e = .returned (.bool true) ∧ V = w') := fun V hV => by
      have := ref8Right_any A l c zs V.heap.size V hl (by omega) (hb.more (Nat.le_refl _) |>.below hV (Nat.le_refl _) |>.more hV.size)
      rwa [hr] at this
    have HL := Lib.hid hl
    have HR := Lib.hid hr
    have hl320 : l ≤ 320 := by omega
    clear hr h320 hb hl hm
    go_enter Try.func4, Try.ntmps4
    go_upto_region 8 with (first
      | (go_at_call 11; refine HQN.out.mono ?_; rintro e w3 ⟨tb, g, m, base, cnt, blk, D, rfl, hlt, _, hb3, _, _⟩; have HLT := Lib.hid hlt; have HB3 := Lib.hid hb3; clear hlt hb3)
      | (go_at_call 12; refine (HRT.out _ HB3.out).mono ?_; rintro e w1 ⟨rfl, rfl⟩))
    clear HRT HQN
    have HWD := Lib.hid (refWidth34_any k)
    obtain ⟨hW1, hW2⟩ := wid_in k
    obtain ⟨W, hW⟩ : ∃ W, wid k = W := ⟨_, rfl⟩
    rw [hW] at HLT hW1 hW2 HWD
    clear hW
    go_upto_region 9 with (first | (go_at_call 13; refine (HWD.out _).mono ?_; rintro e w1 ⟨rfl, rfl⟩))
    go_wp2_with fail
    refine (ref8Values_any A l c zs w3.heap.size w3 HL.out (by omega) (HZS.out _ HB3.out) (Nat.le_refl _)).mono ?_
    rintro e w4 ⟨rfl, hib, hb4⟩
    have HIB := Lib.hid hib
    have HLT4 := Lib.hid (HLT.out.below hb4)
    have HB4 : Hid (Below w.heap.size w w4) := HB3.out.trans (hb4.mono HB3.out.size)
    obtain ⟨vb, hvb⟩ : ∃ vb, w3.heap.size = vb := ⟨_, rfl⟩
    rw [hvb] at HIB ⊢
    have HC4 := Lib.hid (HZS.out _ HB4.out)
    have HV4 := Lib.hid (ib_cells HIB.out (ib_lt HIB.out))
    clear hib hb4 hvb HLT HB3 HZS HIB
    have hp : (2 : Nat) ^ W ≤ 32768 := Nat.le_trans (Nat.pow_le_pow_right (by decide) hW2) (by decide)
    have HRO : Hid (∀ x : Int, (x < 0 ∨ ((2 ^ W : Nat) : Int) ≤ x) → _) := fun x hx => qrow_out tb g m W cnt base x _ blk D w4 HLT4.out hW2 hx
    have HRI : Hid (∀ (x : Nat) (r : R3) V, (qF W (allC zs)).rows[x]? = some r → Below w4.heap.size w4 V → _) := fun x r V hx hV => qrow_in tb g m W cnt base x _ blk D r V (HLT4.out.below hV) hW2 hx
    have HFD : Hid (∀ x : Nat, x < 2 ^ W → _) := fun x hx => refFind_any A (some ⟨vb, 0, none⟩) l c l x W zs w4 HR.out HL.out HC4.out HV4.out hW2 hx
    have HWT := Lib.hid (qwidth_any tb g m W cnt base _ blk D w4 HLT4.out)
    obtain ⟨N, hN⟩ : ∃ N, 2 ^ W = N := ⟨_, rfl⟩
    rw [hN] at HRO HFD hp
    have HNN := Lib.hid hN
    clear hN HC4 HV4 HLT4
    go_upto_region 12 with fail
    go_loopg [11, 12] W (fun gk sv iv wr => ∃ (i Z : Nat), i + gk = W ∧ iv = .int .i64 (i : Int) ∧ sv = .int .i64 (Z : Int) ∧ Z = 2 ^ i ∧ wr = w4)
    case atStart => exact ⟨0, 1, by omega, rfl, rfl, rfl, rfl⟩
    case round =>
      obtain ⟨i, Z, hi, rfl, rfl, hZ, rfl⟩ := hrel
      by_cases hib : i < W
      · have HZ2 : Hid (2 * Z = 2 ^ (i + 1)) := by show _ = _; rw [hZ, Nat.pow_succ, Nat.mul_comm]
        have hZ15 : Z ≤ 32768 := by rw [hZ]; exact Nat.le_trans (Nat.pow_le_pow_right (by decide) (show i ≤ 15 by omega)) (by decide)
        have u0 : i < W := hib
        clear hZ
        go_wp2
        go_roundg (gk - 1)
        case measure => omega
        case rel => exact ⟨i + 1, 2 * Z, by omega, by go_num, by go_num, HZ2.out, rfl⟩
      · obtain rfl : i = W := by omega
        obtain rfl : Z = N := hZ.trans HNN.out
        have hww : ((i : Int) != (i : Int)) = false := by simp
        clear hZ HNN
        by_cases hin : n < 0 ∨ (Z : Int) ≤ n
        · have HR4 := Lib.hid (HRO.out n hin)
          rcases (show n < 0 ∨ (¬ n < 0 ∧ (Z : Int) ≤ n) by omega) with h0 | ⟨h0, h1⟩
          · clear hin
            go_wp2_with (first
              | (go_at_call 15; refine HWT.out.mono ?_; rintro e w5 ⟨rfl, rfl⟩)
              | (go_at_call 16; refine HR4.out.mono ?_; rintro e w5 ⟨rfl, hb5⟩; have HB5 : Hid (Below w.heap.size w w5) := HB4.out.trans (hb5.mono HB4.out.size); clear hb5)
              | (go_at_call 10; refine (HLV.out _).mono ?_; rintro e w6 ⟨rfl, hb6⟩; have HB6 := Lib.hid hb6; clear hb6))
            go_ret
            exact ⟨rfl, HB5.out.trans (HB6.out.mono HB5.out.size)⟩
          · clear hin
            go_wp2_with (first
              | (go_at_call 15; refine HWT.out.mono ?_; rintro e w5 ⟨rfl, rfl⟩)
              | (go_at_call 16; refine HR4.out.mono ?_; rintro e w5 ⟨rfl, hb5⟩; have HB5 : Hid (Below w.heap.size w w5) := HB4.out.trans (hb5.mono HB4.out.size); clear hb5)
              | (go_at_call 10; refine (HLV.out _).mono ?_; rintro e w6 ⟨rfl, hb6⟩; have HB6 := Lib.hid hb6; clear hb6))
            go_ret
            exact ⟨rfl, HB5.out.trans (HB6.out.mono HB5.out.size)⟩
        · obtain ⟨x, rfl⟩ := Int.eq_ofNat_of_zero_le (show 0 ≤ n by omega)
          have hxZ : x < Z := by omega
          have u6 : decide (Z ≤ x) = false := by simp; omega
          have HF4 := Lib.hid (HFD.out x hxZ)
          clear hin
          go_upto_region 20 with (first
            | (go_at_call 15; refine HWT.out.mono ?_; rintro e w5 ⟨rfl, rfl⟩)
            | (go_at_call 17; refine HF4.out.mono ?_; rintro e w5 ⟨r, hrow, rfl, hb5⟩; have HROW := Lib.hid hrow; have HB5 := Lib.hid hb5; clear hrow hb5))
          go_wp2_with fail
          refine (HRI.out x r w5 HROW.out HB5.out).mono ?_
          rintro e w6 ⟨rfl, hb6⟩
          have HB6 : Hid (Below w.heap.size w w6) := by
            have h1 := HB4.out.trans (HB5.out.mono HB4.out.size)
            exact h1.trans (hb6.mono h1.size)
          clear hb6
          obtain ⟨a, b, d⟩ := r
          have e1 : ((a : Int) == (a : Int)) = true := by simp
          have e2 : ((b : Int) == (b : Int)) = true := by simp
          have e3 : (d == d) = true := by simp
          go_wp2_with (first
            | (go_at_call 10; refine (HLV.out _).mono ?_; rintro e w7 ⟨rfl, hb7⟩; have HB7 := Lib.hid hb7; clear hb7))
          go_ret
          exact ⟨rfl, HB6.out.trans (HB7.out.mono HB6.out.size)⟩
end Go.Proofs.Ytnobeipabfdkjaa
