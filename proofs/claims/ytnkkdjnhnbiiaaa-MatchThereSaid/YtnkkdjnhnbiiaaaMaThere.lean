/- Layer 10: what is found is there: the law MatchThere. -/
import Derived.Test.YtnkkdjnhnbiiaaaMaLaw
import Derived.Test.YtnkkdjnhnbiiaaaQuietF
import Derived.Deep.LoopGhost
namespace Go.Proofs.Ytnkkdjnhnbiiaaa
open Go.RowKit Go.Shelf

/-- What the best match is. -/
theorem bestM_there (bs : List UInt8) (a depth : Int) (n d : Nat) (h : bestM bs a depth = (n, d)) :
    (n = 0 ∧ d = 0) ∨ ∃ an : Nat, a = (an : Int) ∧ 3 ≤ n ∧ n ≤ 258 ∧ 1 ≤ d ∧ d ≤ an ∧ d ≤ 32768 ∧ an + n ≤ bs.length ∧ (∀ i, i < n → bs.getD (an + i) 0 = bs.getD (an + i - d) 0) ∧
      (n = 258 ∨ an + n = bs.length ∨ (an + n < bs.length ∧ bs.getD (an + n) 0 ≠ bs.getD (an + n - d) 0)) := by
  rcases bestM_of bs a depth with h0 | ⟨hd, hn⟩
  · rw [h] at h0; cases h0; exact .inl ⟨rfl, rfl⟩
  · rw [h] at hd hn
    dsimp only at hd hn
    have h3 := lenI_three hd
    obtain ⟨q0, q1, q2, q3, q4, _⟩ := cand_of hd
    obtain ⟨an, rfl⟩ := Int.eq_ofNat_of_zero_le q0
    rw [lenI_at bs (by omega) q2 q3 (by omega)] at hn h3
    have hle := runM_le bs an d (capM bs an) 0
    have hcap : capM bs an = min 258 (bs.length - an) := rfl
    refine .inr ⟨an, rfl, by omega, by omega, q2, by omega, q3, by omega, fun i hi => runM_same bs an d (capM bs an) 0 i (by omega) (by omega), ?_⟩
    by_cases h258 : n = 258
    · exact .inl h258
    · by_cases hl : an + n = bs.length
      · exact .inr (.inl hl)
      · refine .inr (.inr ⟨by omega, ?_⟩)
        rw [hn]
        exact runM_end bs an d (capM bs an) 0 (by omega)
theorem get_D {bs : List UInt8} {i : Nat} {x : UInt8} (h : bs[i]? = some x) : bs.getD i 0 = x := by rw [List.getD, h]; rfl
set_option maxRecDepth 100000 in
set_option maxHeartbeats 2000000 in
theorem there_any (A : Option Addr) (l c : Nat) (bs : List UInt8) (a d0 d1 : Int) (w : World) (hl : bs.length = l) (hcap : l ≤ c) (hb : Bytes w w.heap.size A bs) (ha : -9223372036854775808 ≤ a ∧ a ≤ 9223372036854775807) (hd0 : -9223372036854775808 ≤ d0 ∧ d0 ≤ 9223372036854775807) (hd1 : -9223372036854775808 ≤ d1 ∧ d1 ≤ 9223372036854775807) :
    Calls Try.prog 6 #[.slice A l c, .int .i64 a, .agg #[.int .i64 d0, .int .i64 d1]] w fun e w' => e = .returned (.bool true) ∧ Below w.heap.size w w' := by
  have HLV := Lib.hid (fun W : World => lives10_any W)
  obtain ⟨W1, hW1⟩ : ∃ W1, w.alloc (.cells #[.int .i64 d0, .int .i64 d1] 35) = W1 := ⟨_, rfl⟩
  have HB1 : Hid (Below w.heap.size w W1) := by show Below _ _ _; rw [← hW1]; exact (Below.refl _ w).alloc (Nat.le_refl _) _
  by_cases hbad : 3000 < l ∨ d1 < d0 ∨ 100000 < d1
  · have e0 : W1.cell? ⟨w.heap.size, 0, none⟩ = some (.int .i64 d0) := by rw [← hW1]; exact cell_of_row _ _ 0 _ _ _ (heap_alloc_new w _)
    have e1 : W1.cell? ⟨w.heap.size, 1, none⟩ = some (.int .i64 d1) := by rw [← hW1]; exact cell_of_row _ _ 1 _ _ _ (heap_alloc_new w _)
    clear hb
    by_cases h0 : 3000 < l
    · have t0 : decide ((3000 : Int) < (l : Int)) = true := decide_eq_true (by omega)
      clear hbad h0
      go_enter Try.func6, Try.ntmps6
      go_wp2_with (go_at_call 7; refine (HLV.out _).mono ?_; rintro e w' ⟨rfl, hb2⟩; have HB2 := Lib.hid hb2; clear hb2)
      go_ret
      exact ⟨rfl, HB1.out.trans (HB2.out.mono HB1.out.size)⟩
    · have t0 : decide ((3000 : Int) < (l : Int)) = false := decide_eq_false (by omega)
      by_cases h1 : d1 < d0
      · have t1 : decide (d1 < d0) = true := decide_eq_true h1
        clear hbad h0 h1
        go_enter Try.func6, Try.ntmps6
        go_wp2_with (go_at_call 7; refine (HLV.out _).mono ?_; rintro e w' ⟨rfl, hb2⟩; have HB2 := Lib.hid hb2; clear hb2)
        go_ret
        exact ⟨rfl, HB1.out.trans (HB2.out.mono HB1.out.size)⟩
      · have t1 : decide (d1 < d0) = false := decide_eq_false h1
        have t2 : decide ((100000 : Int) < d1) = true := decide_eq_true (by omega)
        clear hbad h0 h1
        go_enter Try.func6, Try.ntmps6
        go_wp2_with (go_at_call 7; refine (HLV.out _).mono ?_; rintro e w' ⟨rfl, hb2⟩; have HB2 := Lib.hid hb2; clear hb2)
        go_ret
        exact ⟨rfl, HB1.out.trans (HB2.out.mono HB1.out.size)⟩
  · have t0 : decide ((3000 : Int) < (l : Int)) = false := decide_eq_false (by omega)
    have t1 : decide (d1 < d0) = false := decide_eq_false (by omega)
    have t2 : decide ((100000 : Int) < d1) = false := decide_eq_false (by omega)
    have HBY1 := Lib.hid (hb.below HB1.out (Nat.le_refl _))
    have HF1 : Hid (W1.heap[w.heap.size]? = some (.cells #[.int .i64 d0, .int .i64 d1] 35)) := by show _ = _; rw [← hW1]; exact heap_alloc_new w _
    have e0 : W1.cell? ⟨w.heap.size, 0, none⟩ = some (.int .i64 d0) := cell_of_row W1 _ 0 _ _ _ HF1.out
    have e1 : W1.cell? ⟨w.heap.size, 1, none⟩ = some (.int .i64 d1) := cell_of_row W1 _ 1 _ _ _ HF1.out
    obtain ⟨n, hn⟩ : ∃ n, (bestM bs a d0).1 = n := ⟨_, rfl⟩
    obtain ⟨d, hd⟩ : ∃ d, (bestM bs a d0).2 = d := ⟨_, rfl⟩
    obtain ⟨m, hm⟩ : ∃ m, (bestM bs a d1).1 = m := ⟨_, rfl⟩
    have hmn : n ≤ m := by rw [← hn, ← hm]; exact bestM_mono bs a (by omega)
    have HTH := Lib.hid (bestM_there bs a d0 n d (by rw [← hn, ← hd]))
    have HZ1 : Hid (W1.heap.size = w.heap.size + 1) := by show _ = _; rw [← hW1]; simp
    have HBE0 := Lib.hid (Best_any A l c bs a d0 W1 hl (by omega) hcap ((HBY1.out).more (by have := HZ1.out; omega)) (by omega) (by omega))
    have HBE1 := Lib.hid (fun (W2 : World) (h : Below W1.heap.size W1 W2) => Best_any A l c bs a d1 W2 hl (by omega) hcap (((HBY1.out).below (h.mono (by have := HZ1.out; omega)) (Nat.le_refl _)).more (by have := h.size; have := HZ1.out; omega)) (by omega) (by omega))
    rw [hn, hd] at HBE0
    rw [hm] at HBE1
    obtain ⟨d', hd'⟩ : ∃ d', (bestM bs a d1).2 = d' := ⟨_, rfl⟩
    rw [hd'] at HBE1
    have HL := Lib.hid hl
    have tm : decide ((m : Int) < (n : Int)) = false := decide_eq_false (by omega)
    have hl3 : l ≤ 3000 := by omega
    clear hn hd hm hd' hbad hb hl
    go_enter Try.func6, Try.ntmps6
    rcases HTH.out with ⟨rfl, rfl⟩ | ⟨an, rfl, b1, b2, b3, b4, b5, b6, hsame, hend⟩
    · clear HTH
      go_wp2_with (first
        | (go_at_call 12; refine HBE0.out.mono ?_; clear HBE0; rintro e W2 ⟨rfl, hb2⟩; have HB2 := Lib.hid hb2; have e2 := cell_of_row W2 w.heap.size 1 _ _ _ ((hb2.block _ (by have := HZ1.out; omega)).trans HF1.out); clear hb2)
        | (go_at_call 12; refine (HBE1.out W2 HB2.out).mono ?_; clear HBE1; rintro e W3 ⟨rfl, hb3⟩; have HB3 := Lib.hid hb3; clear hb3))
      go_loopg [11] 0 (fun _ i wr => i = .int .i64 0 ∧ wr = W3)
      case atStart => exact ⟨rfl, rfl⟩
      case round =>
        obtain ⟨rfl, rfl⟩ := hrel
        have HB123 := Lib.hid ((HB1.out.trans (HB2.out.mono HB1.out.size)).trans (HB3.out.mono (HB1.out.trans (HB2.out.mono HB1.out.size)).size))
        obtain ⟨ι, f, n0, hf0, hfb, hfu⟩ := below_class wr
        have HFU := Lib.hid hfu
        have HFB := Lib.hid hfb
        haveI : Nonempty ι := ⟨n0⟩
        clear hfb hfu
        go_wp2_with fail
        refine region_quiet_f f n0 hf0 (by kernel_rfl) (by kernel_rfl) ?_
        repeat (go_big_quiet_step ((go_at_call 7; exact quiet_f HFU.out (HLV.out _))))
        refine wpQuiet_nil ?_
        rintro _ ⟨nq, rfl⟩
        have HBQ := Lib.hid (HB123.out.trans ((HFB.out nq).mono HB123.out.size))
        clear HFB HFU hf0
        generalize f nq = w5 at *
        go_wp2
        go_ret
        exact ⟨rfl, HBQ.out⟩
    · have k0 : ((n : Int) != 0) = true := by simp; omega
      have k0' : ((n : Int) == 0) = false := by simp; omega
      have k1 : decide ((n : Int) < 3) = false := decide_eq_false (by omega)
      have k2 : decide ((258 : Int) < (n : Int)) = false := decide_eq_false (by omega)
      have k3 : decide ((d : Int) < 1) = false := decide_eq_false (by omega)
      have k4 : decide ((an : Int) < (d : Int)) = false := decide_eq_false (by omega)
      have k5 : decide ((32768 : Int) < (d : Int)) = false := decide_eq_false (by omega)
      have k6 : decide ((an : Int) < 0) = false := decide_eq_false (by omega)
      have k7 : decide ((l : Int) - (an : Int) < (n : Int)) = false := decide_eq_false (by have := HL.out; omega)
      have hw7 : IntKind.i64.wrap ((l : Int) - (an : Int)) = (l : Int) - (an : Int) := IntWalk.i64_in _ (by omega)
      have hw8 : (n : Int) ≤ (l : Int) - (an : Int) := by have := HL.out; omega
      have kn : decide ((0 : Int) < (n : Int)) = true := decide_eq_true (by omega)
      have kd : decide ((0 : Int) < (d : Int)) = true := decide_eq_true (by omega)
      have pn : 0 < n := by omega
      have pd : 0 < d := by omega
      have kn' : decide (0 < n) = true := decide_eq_true pn
      have kd' : decide (0 < d) = true := decide_eq_true pd
      have HSM := Lib.hid hsame
      have HEND := Lib.hid hend
      have b6' : an + n ≤ l := by have := HL.out; omega
      clear HTH hsame hend b6
      obtain ⟨b, o, rfl, hbB, _⟩ := HBY1.out (by rw [byteCells_length, HL.out]; omega)
      go_wp2_with (first
        | (go_at_call 12; refine HBE0.out.mono ?_; clear HBE0; rintro e W2 ⟨rfl, hb2⟩; have HB2 := Lib.hid hb2; have e2 := cell_of_row W2 w.heap.size 1 _ _ _ ((hb2.block _ (by have := HZ1.out; omega)).trans HF1.out); clear hb2)
        | (go_at_call 12; refine (HBE1.out W2 HB2.out).mono ?_; clear HBE1; rintro e W3 ⟨rfl, hb3⟩; have HB3 := Lib.hid hb3; clear hb3))
      have HB123 := Lib.hid ((HB1.out.trans (HB2.out.mono HB1.out.size)).trans (HB3.out.mono (HB1.out.trans (HB2.out.mono HB1.out.size)).size))
      obtain ⟨b', o', he, _, hc⟩ := HBY1.out.below (HB2.out.trans (HB3.out.mono HB2.out.size) |>.mono (by have := HZ1.out; omega)) (Nat.le_refl _) (by rw [byteCells_length, HL.out]; omega)
      cases he
      have HC := Lib.hid hc
      clear hc
      go_loopg [11] n (fun gk i wr => ∃ j q : Nat, j + gk = n ∧ i = .int .i64 j ∧ wr = W3.drewN q)
      case atStart => exact ⟨0, 0, by omega, rfl, rfl⟩
      case round =>
        obtain ⟨j, q, hj, rfl, rfl⟩ := hrel
        by_cases h : gk = 0
        · obtain rfl : j = n := by omega
          go_wp2_with fail
          have kq : ((j : Int) == 258) = decide (j = 258) := by rw [Bool.eq_iff_iff]; simp; omega
          have kl : ((an : Int) + (j : Int) == (l : Int)) = decide (an + j = l) := by rw [Bool.eq_iff_iff]; simp; omega
          by_cases g1 : j = 258
          · rw [decide_eq_true g1] at kq
            obtain ⟨ι, f, n0, hf0, hfb, hfu⟩ := below_class (W3.drewN q)
            have HFU := Lib.hid hfu
            have HFB := Lib.hid hfb
            haveI : Nonempty ι := ⟨n0⟩
            clear hfb hfu
            refine region_quiet_f f n0 hf0 (by kernel_rfl) (by kernel_rfl) ?_
            repeat (go_big_quiet_step ((go_at_call 7; exact quiet_f HFU.out (HLV.out _))))
            refine wpQuiet_nil ?_
            rintro _ ⟨nq, rfl⟩
            have HBQ := Lib.hid ((Below.drewN HB123.out q).trans ((HFB.out nq).mono (Below.drewN HB123.out q).size))
            clear HFB HFU hf0
            generalize f nq = w5 at *
            go_wp2
            go_ret
            exact ⟨rfl, HBQ.out⟩
          · rw [decide_eq_false g1] at kq
            by_cases g2 : an + j = l
            · rw [decide_eq_true g2] at kl
              obtain ⟨ι, f, n0, hf0, hfb, hfu⟩ := below_class (W3.drewN q)
              have HFU := Lib.hid hfu
              have HFB := Lib.hid hfb
              haveI : Nonempty ι := ⟨n0⟩
              clear hfb hfu
              refine region_quiet_f f n0 hf0 (by kernel_rfl) (by kernel_rfl) ?_
              repeat (go_big_quiet_step ((go_at_call 7; exact quiet_f HFU.out (HLV.out _))))
              refine wpQuiet_nil ?_
              rintro _ ⟨nq, rfl⟩
              have HBQ := Lib.hid ((Below.drewN HB123.out q).trans ((HFB.out nq).mono (Below.drewN HB123.out q).size))
              clear HFB HFU hf0
              generalize f nq = w5 at *
              go_wp2
              go_ret
              exact ⟨rfl, HBQ.out⟩
            · rw [decide_eq_false g2] at kl
              obtain ⟨x, hx⟩ : ∃ x, bs[an + j]? = some x := ⟨_, List.getElem?_eq_getElem (by have := HL.out; omega)⟩
              obtain ⟨y, hy⟩ : ∃ y, bs[an + j - d]? = some y := ⟨_, List.getElem?_eq_getElem (by have := HL.out; omega)⟩
              have hne : ((x.toNat : Int) != (y.toNat : Int)) = true := by
                have hq : x ≠ y := by
                  rcases HEND.out with h | h | ⟨_, h⟩
                  · exact absurd h g1
                  · rw [HL.out] at h; exact absurd h g2
                  · rwa [get_D hx, get_D hy] at h
                simp
                exact fun e => hq (UInt8.toNat_inj.1 (by omega))
              have d0 : W3.cell? ⟨b, o + (an + j), none⟩ = some (.int .u8 (x.toNat : Int)) := HC.out _ _ (byteCells_get hx)
              have d1 : W3.cell? ⟨b, o + (an + j - d), none⟩ = some (.int .u8 (y.toNat : Int)) := HC.out _ _ (byteCells_get hy)
              clear hx hy
              obtain ⟨ι, f, n0, hf0, hfb, hfu⟩ := below_class (W3.drewN q)
              have HFU := Lib.hid hfu
              have HFB := Lib.hid hfb
              have HBL : Hid (b < w.heap.size ∧ w.heap.size ≤ W3.heap.size) := ⟨hbB, HB123.out.size⟩
              have y0 := fun n => ((HFB.out n).cell (p := ⟨b, o + (an + j), none⟩) (show b < W3.heap.size by have := HBL.out; omega)).trans d0
              have y1 := fun n => ((HFB.out n).cell (p := ⟨b, o + (an + j - d), none⟩) (show b < W3.heap.size by have := HBL.out; omega)).trans d1
              have tw : IntKind.i64.wrap ((an : Int) + (j : Int)) = (an : Int) + (j : Int) := IntWalk.i64_in _ (by omega)
              have tw2 : IntKind.i64.wrap ((an : Int) + (j : Int) - (d : Int)) = (an : Int) + (j : Int) - (d : Int) := IntWalk.i64_in _ (by omega)
              have tn : ((an : Int) + (j : Int) - (d : Int)).toNat = an + j - d := by omega
              have tn0 : (0 : Int) ≤ (an : Int) + (j : Int) - (d : Int) := by omega
              have tn1 : (an : Int) + (j : Int) - (d : Int) < (l : Int) := by omega
              have tn2 : (an : Int) + (j : Int) < (l : Int) := by omega
              haveI : Nonempty ι := ⟨n0⟩
              clear hfb hfu
              refine region_quiet_f f n0 hf0 (by kernel_rfl) (by kernel_rfl) ?_
              repeat (go_big_quiet_step ((go_at_call 7; exact quiet_f HFU.out (HLV.out _))))
              refine wpQuiet_nil ?_
              rintro _ ⟨nq, rfl⟩
              have HBQ := Lib.hid ((Below.drewN HB123.out q).trans ((HFB.out nq).mono (Below.drewN HB123.out q).size))
              clear HFB HFU hf0 y0 y1
              generalize f nq = w5 at *
              go_wp2
              go_ret
              exact ⟨rfl, HBQ.out⟩
        · go_wp2_with fail
          obtain ⟨x, hx⟩ : ∃ x, bs[an + j]? = some x := ⟨_, List.getElem?_eq_getElem (by have := HL.out; omega)⟩
          have hy : bs[an + j - d]? = some x := by
            have h1 := HSM.out j (by omega)
            obtain ⟨y, hy⟩ : ∃ y, bs[an + j - d]? = some y := ⟨_, List.getElem?_eq_getElem (by have := HL.out; omega)⟩
            rw [get_D hx, get_D hy] at h1
            rw [hy, h1]
          have d0 : W3.cell? ⟨b, o + (an + j), none⟩ = some (.int .u8 (x.toNat : Int)) := HC.out _ _ (byteCells_get hx)
          have d1 : W3.cell? ⟨b, o + (an + j - d), none⟩ = some (.int .u8 (x.toNat : Int)) := HC.out _ _ (byteCells_get hy)
          have tw : IntKind.i64.wrap ((an : Int) + (j : Int)) = (an : Int) + (j : Int) := IntWalk.i64_in _ (by omega)
          have tw2 : IntKind.i64.wrap ((an : Int) + (j : Int) - (d : Int)) = (an : Int) + (j : Int) - (d : Int) := IntWalk.i64_in _ (by omega)
          have tn : ((an : Int) + (j : Int) - (d : Int)).toNat = an + j - d := by omega
          have tn0 : (0 : Int) ≤ (an : Int) + (j : Int) - (d : Int) := by omega
          have tn1 : (an : Int) + (j : Int) - (d : Int) < (l : Int) := by omega
          have tn2 : (an : Int) + (j : Int) < (l : Int) := by omega
          have hxx : ((x.toNat : Int) != (x.toNat : Int)) = false := by simp
          clear hx hy
          go_region
          go_wp2
          go_roundg (gk - 1)
          case measure => omega
          case rel => exact ⟨j + 1, q + 1, by omega, by go_num, rfl⟩
end Go.Proofs.Ytnkkdjnhnbiiaaa
