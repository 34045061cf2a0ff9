/- Layer 35: the chapter's example; the laws ChainHashes, ChainFinds. -/
import Derived.Test.YtiojpnhpbpkilaaChRef
import Derived.Test.YtiojpnhpbpkilaaChBest
import Derived.Lib.SmallJoins
namespace Go.Proofs.Ytiojpnhpbpkilaa
open Go.RowKit

theorem Below.drewN {B : Nat} {a w : World} (h : Below B a w) (n : Nat) : Below B a (w.drewN n) := ⟨h.os, h.tape, h.output, h.size, h.block⟩
theorem bestL : bestM [97, 98, 99, 97, 98, 99] 3 1 = (3, 3) := by decide
theorem prevL : prevI [97, 98, 99, 97, 98, 99] 3 = 1 := by decide
set_option maxHeartbeats 400000 in
theorem lives35_any (w : World) : Calls Try.prog 8 #[] w fun e w' => e = .returned (.bool true) ∧ Below w.heap.size w w' := by
  obtain ⟨W1, hW1⟩ : ∃ W1, w.alloc (.cells #[.int .u8 97, .int .u8 98, .int .u8 99, .int .u8 97, .int .u8 98, .int .u8 99] 5 (6, 7)) = W1 := ⟨_, rfl⟩
  have kc : (convert 25 25 (.slice (some ⟨w.heap.size, 0, none⟩) 6 6)).run Try.prog (w.alloc (.cells #[.int .u8 97, .int .u8 98, .int .u8 99, .int .u8 97, .int .u8 98, .int .u8 99] 5)) = .ok (.slice (some ⟨w.heap.size, 0, none⟩) 6 6) W1 := by
    rw [← hW1]
    exact Joins.run_convert_bytes_const_at (P := Try.prog) w 25 5 _ 6 6 w.heap.size rfl Try.underlying25 Try.underlying5
  have HBY : Hid (Bytes W1 (w.heap.size + 1) (some ⟨w.heap.size, 0, none⟩) [97, 98, 99, 97, 98, 99]) := by
    show Cells _ _ _ _
    rw [← hW1]
    exact bytes_new w 5 (6, 7) [97, 98, 99, 97, 98, 99] _ (by simp) w.heap.size (w.heap.size + 1) rfl (by omega)
  have HZ1 : Hid (W1.heap.size = w.heap.size + 1) := by show _ = _; rw [← hW1]; simp
  have HB1 : Hid (Below w.heap.size w W1) := by show Below _ _ _; rw [← hW1]; exact (Below.refl _ w).alloc (Nat.le_refl _) _
  clear hW1
  obtain ⟨A, hA⟩ : ∃ A : Option Addr, some ⟨w.heap.size, 0, none⟩ = A := ⟨_, rfl⟩
  have kc2 : (convert 25 25 (.slice (some ⟨w.heap.size, 0, none⟩) 6 6)).run Try.prog (w.alloc (.cells #[.int .u8 97, .int .u8 98, .int .u8 99, .int .u8 97, .int .u8 98, .int .u8 99] 5)) = .ok (.slice A 6 6) W1 := by rw [← hA]; exact kc
  rw [hA] at HBY
  clear kc hA
  obtain ⟨bs, hbs⟩ : ∃ bs : List UInt8, [97, 98, 99, 97, 98, 99] = bs := ⟨_, rfl⟩
  have p1 := prevL
  have p2 := bestL
  have hl6 : bs.length = 6 := by rw [← hbs]; rfl
  rw [hbs] at HBY p1 p2
  clear hbs
  have HNE := Lib.hid (new_any A 6 6 bs (w.heap.size + 1) W1 hl6 (by decide) HBY.out (by have := HZ1.out; omega))
  have HPR := Lib.hid (fun (g g0 : Nat) (W : World) (h : LCh W g g0 A 6 6 bs) => prev_any g g0 6 6 A bs 3 W hl6 (by decide) h)
  have HFI := Lib.hid (fun (g g0 B : Nat) (W : World) (h : LCh W g g0 A 6 6 bs) (hb : Bytes W B A bs) => find_any g g0 6 6 A bs 3 1 B W hl6 (by decide) hb h (by decide))
  rw [p1] at HPR
  rw [p2] at HFI
  clear p1 p2
  generalize hN1 : W1.heap.size = N1 at *
  clear hN1
  go_enter Try.func8, Try.ntmps8
  go_wp2_with (first
    | (go_at_call 9; refine HNE.out.mono ?_; rintro e w2 ⟨rfl, hch, hb2⟩; have HCH := Lib.hid hch; have HB2 := Lib.hid hb2; clear hch hb2)
    | (go_at_call 10; refine (HPR.out _ _ _ HCH.out).mono ?_; rintro e w3 ⟨rfl, rfl⟩)
    | (go_at_call 12; refine (HFI.out _ _ (w.heap.size + 1) _ HCH.out (HBY.out.below (HB2.out.mono (by have := HZ1.out; omega)) (Nat.le_refl _))).mono ?_; rintro e w4 ⟨rfl, m4, rfl⟩))
  go_ret
  exact ⟨rfl, Below.drewN (HB1.out.trans (HB2.out.mono (by have := HZ1.out; omega))) m4⟩
set_option maxHeartbeats 1000000 in
theorem hashes_law (a b c : UInt8) (w : World) :
    Calls Try.prog 3 #[.int .u8 (a.toNat : Int), .int .u8 (b.toNat : Int), .int .u8 (c.toNat : Int)] w fun e w' => e = .returned (.bool true) ∧ Below w.heap.size w w' := by
  have H1 := Lib.hid (hash_any a b c w)
  have H2 := Lib.hid (rhash_any a b c w)
  have HLV := Lib.hid (lives35_any w)
  have hq : ((hashN a b c : Int) == (hashN a b c : Int)) = true := by simp
  go_enter Try.func3, Try.ntmps3
  go_wp2_with (first
    | (go_at_call 6; refine H1.out.mono ?_; rintro e w' ⟨rfl, rfl⟩)
    | (go_at_call 7; refine H2.out.mono ?_; rintro e w' ⟨rfl, rfl⟩)
    | (go_at_call 8; refine HLV.out.mono ?_; rintro e w' ⟨rfl, hb2⟩; have HB2 := Lib.hid hb2; clear hb2))
  go_ret
  exact ⟨rfl, HB2.out⟩
set_option maxHeartbeats 1000000 in
theorem finds_law (A A2 : Option Addr) (l c l2 c2 : Nat) (bs : List UInt8) (zs : List Int) (depth : Int) (w : World) (hl : bs.length = l) (hb : Bytes w w.heap.size A bs) (hz : zs.length = l2) (hz2 : l2 ≤ 9223372036854775807) (hzs : Cells w w.heap.size A2 (zs.map ic)) (hdp : -9223372036854775808 ≤ depth ∧ depth ≤ 9223372036854775807) :
    Calls Try.prog 5 #[.slice A l c, .slice A2 l2 c2, .int .i64 depth] w fun e w' => e = .returned (.bool true) ∧ Below w.heap.size w w' := by
  have HLV := Lib.hid (fun W : World => lives35_any W)
  by_cases h0 : 500 < l
  · have t0 : decide ((500 : Int) < (l : Int)) = true := decide_eq_true (by omega)
    clear h0 hb hzs
    go_enter Try.func5, Try.ntmps5
    go_wp2_with (go_at_call 8; refine (HLV.out _).mono ?_; rintro e w' ⟨rfl, hb2⟩; have HB2 := Lib.hid hb2; clear hb2)
    go_ret
    exact ⟨rfl, HB2.out⟩
  have t0 : decide ((500 : Int) < (l : Int)) = false := decide_eq_false (by omega)
  by_cases h1 : 20 < l2
  · have t1 : decide ((20 : Int) < (l2 : Int)) = true := decide_eq_true (by omega)
    clear h0 h1 hb hzs
    go_enter Try.func5, Try.ntmps5
    go_wp2_with (go_at_call 8; refine (HLV.out _).mono ?_; rintro e w' ⟨rfl, hb2⟩; have HB2 := Lib.hid hb2; clear hb2)
    go_ret
    exact ⟨rfl, HB2.out⟩
  have t1 : decide ((20 : Int) < (l2 : Int)) = false := decide_eq_false (by omega)
  have t0' : decide (500 < l) = false := decide_eq_false h0
  have t1' : decide (20 < l2) = false := decide_eq_false h1
  have HNE := Lib.hid (new_any A l c bs w.heap.size w hl (by omega) hb (Nat.le_refl _))
  have HL := Lib.hid hl
  have HZ := Lib.hid hz
  have HBY := Lib.hid hb
  have HZS := Lib.hid hzs
  have hl5 : l ≤ 500 := by omega
  clear hb hzs hl hz
  go_enter Try.func5, Try.ntmps5
  go_wp2_with (go_at_call 9; refine HNE.out.mono ?_; rintro e w2 ⟨rfl, hch, hb2⟩; have HCH := Lib.hid hch; have HB2 := Lib.hid hb2; clear hch hb2)
  go_loopg [8] l2 (fun gk i wr => ∃ k m : Nat, k + gk = l2 ∧ i = .int .i64 k ∧ wr = w2.drewN m)
  case atStart => exact ⟨0, 0, by omega, rfl, rfl⟩
  case round =>
    obtain ⟨k, m, hk, rfl, rfl⟩ := hrel
    by_cases hkl : k < l2
    · obtain ⟨x, hx⟩ : ∃ x, zs[k]? = some x := ⟨_, List.getElem?_eq_getElem (by have := HZ.out; omega)⟩
      obtain ⟨b2, o2, rfl, hbB, hc⟩ := (HZS.out.below HB2.out (Nat.le_refl _)) (by rw [List.length_map, HZ.out]; omega)
      have c1 : w2.cell? ⟨b2, o2 + k, none⟩ = some (.int .i64 x) := hc k _ (by rw [List.getElem?_map, hx]; rfl)
      have HF1 := Lib.hid (fun m' : Nat => find_any (w.heap.size + 1) w.heap.size l c A bs x depth w.heap.size (w2.drewN m') HL.out (by omega) (HBY.out.below (Below.drewN HB2.out m') (Nat.le_refl _)) (HCH.out.drewN m') hdp)
      have HF2 := Lib.hid (fun m' : Nat => rbest_any A l c bs x depth w.heap.size (w2.drewN m') HL.out (by omega) (HBY.out.below (Below.drewN HB2.out m') (Nat.le_refl _)) hdp)
      obtain ⟨n, hn⟩ : ∃ n, (bestM bs x depth).1 = n := ⟨_, rfl⟩
      obtain ⟨d, hd⟩ : ∃ d, (bestM bs x depth).2 = d := ⟨_, rfl⟩
      rw [hn, hd] at HF1 HF2
      have q1 : ((n : Int) != (n : Int)) = false := by simp
      have q2 : ((d : Int) != (d : Int)) = false := by simp
      clear hn hd hc hx
      go_wp2_with (first
        | (go_at_call 12; refine (HF1.out m).mono ?_; rintro e w' ⟨rfl, m2, rfl⟩)
        | (go_at_call 14; refine (HF2.out (m + m2)).mono ?_; rintro e w' ⟨rfl, m3, rfl⟩))
      go_roundg (gk - 1)
      case measure => omega
      case rel => exact ⟨k + 1, m + m2 + m3, by omega, by go_num, by simp⟩
    · obtain rfl : k = l2 := by omega
      go_wp2_with (go_at_call 8; refine (HLV.out _).mono ?_; rintro e w' ⟨rfl, hb2⟩; have HB3 := Lib.hid hb2; clear hb2)
      go_ret
      exact ⟨rfl, (Below.drewN HB2.out m).trans (HB3.out.mono (Below.drewN HB2.out m).size)⟩
end Go.Proofs.Ytiojpnhpbpkilaa
