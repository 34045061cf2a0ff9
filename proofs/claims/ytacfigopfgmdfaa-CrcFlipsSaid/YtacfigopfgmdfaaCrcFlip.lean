/- The contract of Flip: new memory that holds the bytes with the bits changed; below it all is as it was. -/
import Derived.Test.YtacfigopfgmdfaaCrcLeaf
import Derived.Test.YtacfigopfgmdfaaCrcBits
import Derived.Laws.CopyOwn
import Derived.RegionTactic
import Derived.Deep.DeepCutAuto
namespace Go.Proofs.Ytacfigopfgmdfaa
open Go.RowKit CrcP

theorem byteInfo : (Try.prog.info? 5).map (fun i => (i.zero, i.size, i.bytes)) = some (some (.int .u8 0), 1, 1) := by kernel_rfl
theorem byteSize : (Try.prog.info? 5).map (·.size) = some 1 := by kernel_rfl

theorem make_bytes (n : Nat) (hn : n ≤ 281474976710656) (W : World) :
    (Instr.makeSlice 22 (.int .i64 (n : Int)) (.int .i64 (n : Int))).run Try.prog W = .ok (.slice (some ⟨W.heap.size, 0, none⟩) n n) (W.alloc (.cells (madeCells #[.int .u8 0] n) 5)) := by
  obtain ⟨i0, hi, hz0, hz1, hz2⟩ := info_parts byteInfo
  have h := run_make (P := Try.prog) W 22 5 i0 (.int .u8 0) Try.underlying22 hi hz0 .i64 .i64 n n (by omega) (Int.le_refl _) (by rw [hz2]; omega) (by omega)
  simp only [Int.toNat_natCast, hz1, Nat.mul_one] at h
  exact h

theorem made_bytes (n : Nat) : madeCells #[Value.int .u8 0] n = (List.replicate n (Value.int .u8 0)).toArray := by
  apply Array.toList_inj.1
  rw [toList_madeCells_one]

theorem made_block (w : World) (n : Nat) : (w.alloc (.cells (madeCells #[Value.int .u8 0] n) 5)).heap[w.heap.size]? = some (.cells (List.replicate n (Value.int .u8 0)).toArray 5 (0, 0)) := by
  rw [made_bytes]
  exact heap_alloc_new w _

/-- What a flip at any place comes to. -/
def flipN (bs : List UInt8) (a : Int) (bits : Nat) : List UInt8 := if a < 0 ∨ 1099511627776 < a then bs else flipK bs a.toNat bits 32

theorem bit_test (m k : Nat) : (((m : Int) / 2 ^ k).tmod 2 == 1) = decide (m / 2 ^ k % 2 = 1) := by
  have e : ((m : Int) / 2 ^ k) = ((m / 2 ^ k : Nat) : Int) := by simp
  rw [e]
  generalize m / 2 ^ k = x
  rw [Int.tmod_eq_emod_of_nonneg (by omega)]
  rw [Bool.eq_iff_iff]
  simp
  omega

theorem flip_byte (x : UInt8) {r : Nat} (hr : r < 8) : bits .xor .u8 (x.toNat : Int) ((2 : Int) ^ r % 256) = ((UInt8.ofNat (x.toNat ^^^ 2 ^ r)).toNat : Int) := by
  have h2 : 2 ^ r < 256 := Nat.pow_lt_pow_right (m := r) (n := 8) (by omega) hr
  have e : ((2 : Int) ^ r % 256) = ((2 ^ r : Nat) : Int) := by
    have e2 : ((2 ^ r : Nat) : Int) = (2 : Int) ^ r := by simp
    rw [← e2]
    generalize 2 ^ r = y at *
    omega
  rw [e, u8_xor_nat _ _ (UInt8.toNat_lt x) h2]
  have hlt := byte_xor_lt x hr
  simp only [UInt8.toNat_ofNat']
  rw [Nat.mod_eq_of_lt hlt]

/-- Block g is the cells of bytes. -/
def ByteBlock (w : World) (g : Nat) (bs : List UInt8) : Prop := w.heap[g]? = some (.cells (byteCells bs).toArray 5 (0, 0))

theorem block_cell {w : World} {g : Nat} {bs : List UInt8} {i : Nat} {x : UInt8} (h : ByteBlock w g bs) (hx : bs[i]? = some x) : w.cell? ⟨g, i, none⟩ = some (.int .u8 (x.toNat : Int)) := by
  rw [cell_of_row w g i _ _ _ h]
  simpa using byteCells_get hx
theorem block_free {w : World} {g : Nat} {bs : List UInt8} (h : ByteBlock w g bs) (i : Nat) : w.frozen? ⟨g, i, none⟩ = false := frozen_of_row w g i _ _ h
theorem block_set {w : World} {g : Nat} {bs : List UInt8} (h : ByteBlock w g bs) (i : Nat) (y : UInt8) : ByteBlock (w.setCell ⟨g, i, none⟩ (.int .u8 (y.toNat : Int))) g (bs.set i y) := by
  unfold ByteBlock
  rw [heap_setCell_same w g i _ _ _ h]
  unfold byteCells
  rw [List.setIfInBounds_toArray, List.map_set]
theorem block_cells {w : World} {g B : Nat} {bs : List UInt8} (h : ByteBlock w g bs) (hB : g < B) : Bytes w B (some ⟨g, 0, none⟩) bs := fun _ =>
  ⟨g, 0, rfl, hB, fun j u hu => by
    rw [Nat.zero_add, cell_of_row w g j _ _ _ h]
    simpa using hu⟩

set_option maxRecDepth 100000 in
set_option maxHeartbeats 400000 in
theorem flip_any (A : Option Addr) (l c : Nat) (bs : List UInt8) (a : Int) (bits : Int) (w : World) (hl : bs.length = l) (hm : l ≤ 281474976710656) (ha1 : -9223372036854775808 ≤ a) (ha2 : a ≤ 9223372036854775807)
    (h0 : 0 ≤ bits) (h1 : bits < 4294967296) (hb : Bytes w w.heap.size A bs) :
    Calls Try.prog 16 #[.slice A l c, .int .i64 a, .int .u32 bits] w fun e w' => ∃ g, e = .returned (.slice (some ⟨g, 0, none⟩) l l) ∧ g = w.heap.size ∧ ByteBlock w' g (flipN bs a bits.toNat) ∧ Below w.heap.size w w' := by
  obtain ⟨m, rfl⟩ := Int.eq_ofNat_of_zero_le h0
  rw [Int.toNat_natCast]
  have HL := Lib.hid hl
  have HB : Hid (Bytes w w.heap.size A bs) := hb
  have hmk := make_bytes l (by omega)
  have HLB : Hid ((byteCells bs).length = l) := by rw [byteCells_length]; exact hl
  clear hl hb h0
  by_cases hneg : a < 0
  · have HF : Hid (flipN bs a m = bs) := by show flipN bs a m = bs; unfold flipN; rw [if_pos (.inl hneg)]
    go_enter Try.func16, Try.ntmps16
    go_wp2_with (with_reducible refine wpList_copy_cells rfl (.tmp 13) (.tmp 14) 22 22 rfl 5 Try.underlying22 byteSize A l l c w.heap.size rfl rfl (List.replicate l (Value.int .u8 0)) 5 (made_block w l) (List.length_replicate ..) (byteCells bs) HLB.out w.heap.size (HB.out.alloc (Nat.le_refl _) _) (byteCells_one _) w.heap.size w ((Below.refl _ _).alloc (Nat.le_refl _) _) (Nat.le_refl _) ?_; intro w1 hblk hbel; have HBLK := Lib.hid hblk; have HBEL := Lib.hid hbel; clear hblk hbel hmk)
    go_ret
    exact ⟨_, rfl, rfl, by rw [HF.out]; exact HBLK.out, HBEL.out⟩
  by_cases hbig : 1099511627776 < a
  · have HF : Hid (flipN bs a m = bs) := by show flipN bs a m = bs; unfold flipN; rw [if_pos (.inr hbig)]
    go_enter Try.func16, Try.ntmps16
    go_wp2_with (with_reducible refine wpList_copy_cells rfl (.tmp 13) (.tmp 14) 22 22 rfl 5 Try.underlying22 byteSize A l l c w.heap.size rfl rfl (List.replicate l (Value.int .u8 0)) 5 (made_block w l) (List.length_replicate ..) (byteCells bs) HLB.out w.heap.size (HB.out.alloc (Nat.le_refl _) _) (byteCells_one _) w.heap.size w ((Below.refl _ _).alloc (Nat.le_refl _) _) (Nat.le_refl _) ?_; intro w1 hblk hbel; have HBLK := Lib.hid hblk; have HBEL := Lib.hid hbel; clear hblk hbel hmk)
    go_ret
    exact ⟨_, rfl, rfl, by rw [HF.out]; exact HBLK.out, HBEL.out⟩
  have HF : Hid (flipN bs a m = flipK bs a.toNat m 32) := by show flipN bs a m = _; unfold flipN; rw [if_neg (by omega)]
  obtain ⟨q, rfl⟩ := Int.eq_ofNat_of_zero_le (show 0 ≤ a by omega)
  rw [Int.toNat_natCast] at HF
  go_enter Try.func16, Try.ntmps16
  go_wp2_with (with_reducible refine wpList_copy_cells rfl (.tmp 13) (.tmp 14) 22 22 rfl 5 Try.underlying22 byteSize A l l c w.heap.size rfl rfl (List.replicate l (Value.int .u8 0)) 5 (made_block w l) (List.length_replicate ..) (byteCells bs) HLB.out w.heap.size (HB.out.alloc (Nat.le_refl _) _) (byteCells_one _) w.heap.size w ((Below.refl _ _).alloc (Nat.le_refl _) _) (Nat.le_refl _) ?_; intro w1 hblk hbel; have HBLK := Lib.hid hblk; have HBEL := Lib.hid hbel; clear hblk hbel hmk)
  generalize hgg : w.heap.size = g at *
  have HG := Lib.hid hgg
  clear hgg HB
  go_loopw [23] (fun i wr => ∃ k : Nat, k ≤ 32 ∧ i = .int .i64 k ∧ ByteBlock wr g (flipK bs q m k) ∧ Below g w wr) (fun i _ => 32 - (intOf i).toNat)
  case atStart => exact ⟨0, by omega, rfl, HBLK.out, HBEL.out⟩
  case round =>
    obtain ⟨k, hk, rfl, hblk, hbel⟩ := hrel
    have HBLK' := Lib.hid hblk
    have HBEL' := Lib.hid hbel
    clear hblk hbel HBLK HBEL
    by_cases hlt : k < 32
    · have hd : decide ((k : Int) < 32) = true := by simp; omega
      by_cases hin : (q + k) / 8 < l
      · by_cases hbit : m / 2 ^ k % 2 = 1
        · have HBIT := Lib.hid hbit
          have hin' : decide ((l : Int) ≤ ((q : Int) + (k : Int)) / 8) = false := by simp; omega
          have HIN := Lib.hid hin
          clear hbit hneg ha1 ha2 hm hin
          have hs1 : (((m : Int) / 2 ^ k).tmod 2 == 1) = true := bit_test m k ▸ (by simp [HBIT.out])
          go_upto_region 11 with (fail)
          obtain ⟨P, hP⟩ : ∃ P, P = q + k := ⟨_, rfl⟩
          rw [show ((q : Int) + (k : Int)) = (P : Int) by omega]
          have HP := Lib.hid hP
          have hpl : (P : Int) / 8 < (l : Int) := by rw [hP]; have := HIN.out; omega
          have hp0 : (0 : Int) ≤ (P : Int) / 8 := by omega
          have hpb : P ≤ 1099511628000 := by omega
          obtain ⟨x, hx⟩ := get_lt (bs := flipK bs q m k) (k := P / 8) (by rw [length_flipK, HL.out]; omega)
          have hc := block_cell HBLK'.out hx
          have hf := block_free HBLK'.out (P / 8)
          have HX := Lib.hid hx
          clear hP hx hin' hs1 hd hbig
          have hxb : (x.toNat : Int) < 256 := by have := UInt8.toNat_lt x; omega
          go_region
          go_wp2
          refine ⟨⟨k + 1, by omega, by go_num, ?_, ?_⟩, by simp [intOf]; omega⟩
          · rw [flip_byte x (by omega : P % 8 < 8)]
            have he : flipK bs q m (k + 1) = (flipK bs q m k).set (P / 8) (UInt8.ofNat (x.toNat ^^^ 2 ^ (P % 8))) := by
              rw [flipK, if_pos HBIT.out, flipAt, ← HP.out, HX.out]
            rw [he]
            exact block_set HBLK'.out (P / 8) _
          · exact (HBEL'.out.setCell (Nat.le_refl _) _).drew
        · have HBIT := Lib.hid hbit
          have hin' : decide ((l : Int) ≤ ((q : Int) + (k : Int)) / 8) = false := by simp; omega
          have hs1 : (((m : Int) / 2 ^ k).tmod 2 == 1) = false := bit_test m k ▸ (by simp [HBIT.out])
          clear hbit hneg ha1 ha2 hm hin
          go_wp2
          refine ⟨⟨k + 1, by omega, by go_num, ?_, HBEL'.out⟩, by simp [intOf]; omega⟩
          rw [flipK, if_neg HBIT.out]
          exact HBLK'.out
      · have hin' : decide ((l : Int) ≤ ((q : Int) + (k : Int)) / 8) = true := by simp; omega
        have HE : Hid (flipK bs q m 32 = flipK bs q m k) := by
          have := flipK_end bs q m k (by rw [HL.out]; omega) (32 - k)
          rwa [show k + (32 - k) = 32 by omega] at this
        clear hneg ha1 ha2 hm hin
        go_wp2
        go_ret
        exact ⟨_, rfl, HG.out.symm, by rw [HF.out, HE.out]; exact HBLK'.out, by rw [HG.out]; exact HBEL'.out⟩
    · obtain rfl : k = 32 := by omega
      have hd : decide ((32 : Int) < 32) = false := by decide
      go_wp2
      go_ret
      exact ⟨_, rfl, HG.out.symm, by rw [HF.out]; exact HBLK'.out, by rw [HG.out]; exact HBEL'.out⟩
end Go.Proofs.Ytacfigopfgmdfaa
