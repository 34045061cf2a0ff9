/- Layer 7: the law WeighCounts. -/
import Derived.Test.YtbhkaofgljpekaaWeiCt
namespace Go.Proofs.Ytbhkaofgljpekaa
open Go.RowKit

set_option maxHeartbeats 1000000 in
theorem counts_law (A : Option Addr) (l c : Nat) (bs : List UInt8) (x : UInt8) (w : World) (hl : bs.length = l) (hm : l ≤ 9223372036854775807) (hb : Bytes w w.heap.size A bs) :
    Calls Try.prog 5 #[.slice A l c, .int .u8 (x.toNat : Int)] w fun e w' => e = .returned (.bool true) ∧ Below w.heap.size w w' := by
  have HC := Lib.hid hb
  have HL := Lib.hid hl
  clear hb hl
  by_cases h3 : 3000 < l
  · have hd : decide ((3000 : Int) < (l : Int)) = true := by simp; omega
    clear h3
    go_enter Try.func5, Try.ntmps5
    go_wp2_with (go_at_call 8; refine (lives7_any _).mono ?_; rintro e w1 ⟨rfl, hb1⟩; have HB1 := Lib.hid hb1; clear hb1)
    go_ret
    exact ⟨rfl, HB1.out⟩
  have hd : decide ((3000 : Int) < (l : Int)) = false := by simp; omega
  have hxl : x.toNat < 256 := x.toNat_lt
  obtain ⟨v, hv⟩ : ∃ v, x.toNat = v := ⟨_, rfl⟩
  have HV := Lib.hid hv
  rw [hv] at hxl ⊢
  clear hv
  go_enter Try.func5, Try.ntmps5
  go_wp2
  go_loopg [5, 6] l (fun gk n i wr => ∃ k : Nat, k + gk = l ∧ i = .int .i64 k ∧ n = .int .i64 ((bs.take k).count x : Nat) ∧ wr = w)
  case atStart => exact ⟨0, by omega, rfl, rfl, rfl⟩
  case round =>
    obtain ⟨k, hk, rfl, rfl, rfl⟩ := hrel
    have hle := List.count_le_length (a := x) (l := bs.take k)
    rw [List.length_take] at hle
    by_cases h : k < l
    · obtain ⟨y, hy⟩ : ∃ y, bs[k]? = some y := ⟨_, List.getElem?_eq_getElem (by have := HL.out; omega)⟩
      obtain ⟨b, o, rfl, hbB, hc⟩ := HC.out (by rw [byteCells_length, HL.out]; omega)
      have c0 : wr.cell? ⟨b, o + k, none⟩ = some (.int .u8 (y.toNat : Int)) := hc k _ (byteCells_get hy)
      have HT : Hid (bs.take (k + 1) = bs.take k ++ [y]) := by show _ = _; rw [List.take_add_one, hy]; rfl
      obtain ⟨n, hn⟩ : ∃ n, (bs.take k).count x = n := ⟨_, rfl⟩
      have HN := Lib.hid hn
      rw [hn] at hle ⊢
      clear hc hy hn
      by_cases hyx : y = x
      · have HC2 : Hid ((bs.take (k + 1)).count x = n + 1) := by show _ = _; rw [HT.out, List.count_append, HN.out, hyx]; simp
        rw [hyx, HV.out] at c0
        go_wp2
        go_roundg (gk - 1)
        case measure => omega
        case rel => exact ⟨k + 1, by omega, by go_num, by rw [HC2.out]; go_num, rfl⟩
      · have HC2 : Hid ((bs.take (k + 1)).count x = n) := by show _ = _; rw [HT.out, List.count_append, HN.out]; simp [hyx]
        have hne : ¬ y.toNat = v := fun e => hyx (UInt8.toNat_inj.1 (e.trans HV.out.symm))
        have hd2 : ((y.toNat : Int) == (v : Int)) = false := by simp; omega
        clear hyx
        go_wp2
        go_roundg (gk - 1)
        case measure => omega
        case rel => exact ⟨k + 1, by omega, by go_num, by rw [HC2.out], rfl⟩
    · obtain rfl : k = l := by omega
      have ht : bs.take k = bs := List.take_of_length_le (by have := HL.out; omega)
      have HCT := Lib.hid (count_any A k c bs wr.heap.size wr HL.out (by omega) HC.out (Nat.le_refl _))
      have hat := cntB_at bs x
      rw [HV.out] at hat
      rw [ht] at hle ⊢
      obtain ⟨n, hn⟩ : ∃ n, bs.count x = n := ⟨_, rfl⟩
      rw [hn] at hle hat ⊢
      have HAT := Lib.hid hat
      have hs : decide (v < 256) = true := by simp; omega
      clear ht hn hat
      go_wp2_with (first
        | (go_at_call 17; refine HCT.out.mono ?_; rintro e w1 ⟨rfl, hn1, hb1⟩; have HB1 := Lib.hid hb1; have c1 : w1.cell? ⟨wr.heap.size, v, none⟩ = some (.int .i64 (n : Int)) := hn1.cell HAT.out; clear hn1 hb1)
        | (go_at_call 8; refine (lives7_any _).mono ?_; rintro e w2 ⟨rfl, hb2⟩; have HB2 := Lib.hid hb2; clear hb2))
      go_ret
      exact ⟨rfl, HB1.out.trans (HB2.out.mono HB1.out.size)⟩
end Go.Proofs.Ytbhkaofgljpekaa
