/- Layer 4, the document's answer: Read of all. -/
import Derived.Test.YtjedhemjojcekaaDiskRy
import Derived.Lib.AppendStr
namespace Go.Proofs.Ytjedhemjojcekaa
open Go.RowKit
attribute [local go_sem ↓] Go.wp_at_zero Go.wp_at_succ

theorem make_cap4 (n : Nat) (hn : n ≤ 281474976710656) (W : World) :
    (Instr.makeSlice 25 (.int .i64 0) (.int .i64 (n : Int))).run Try.prog W = .ok (.slice (some ⟨W.heap.size, 0, none⟩) 0 n) (W.alloc (.cells (madeCells #[.int .u8 0] n) 5)) := by
  obtain ⟨i0, hi, hz0, hz1, hz2⟩ := info_parts byteInfo4
  have h := run_make (P := Try.prog) W 25 5 i0 (.int .u8 0) Try.underlying25 hi hz0 .i64 .i64 0 n (by omega) (by omega) (by rw [hz2]; omega) (by omega)
  simp only [Int.toNat_natCast, hz1, Nat.mul_one] at h
  exact h

set_option maxRecDepth 100000 in
set_option maxHeartbeats 1000000 in
theorem rread_all (g base : Nat) (S : Nat → Prop) (now safe : List UInt8) (waits : List (Nat × List UInt8)) (w : World) (h : RfS w g base S now safe waits) (hm : now.length ≤ 2097152) (h512 : now.length % 512 = 0) :
    Calls Try.prog 17 #[.pointer (some ⟨g, 0, none⟩), .int .i64 0, .int .i64 (now.length : Int)] w fun e w' => ∃ A c, e = .returned (.slice A now.length c) ∧ OwnB w' w.heap.size 5 (.slice A now.length c) now.length now ∧ Below w.heap.size w w' := by
  obtain ⟨A1, c1, A2, c2, A3, c3, A4, c4, h, rfl⟩ := h
  obtain ⟨z, hz⟩ : ∃ z, z = now.length / 512 := ⟨_, rfl⟩
  have hz5 : 512 * z = now.length := by omega
  have hz6 : z ≤ 4096 := by omega
  obtain ⟨n, hn⟩ : ∃ n, n = now.length := ⟨_, rfl⟩
  rw [← hn] at hz5 hm ⊢
  have HNL := Lib.hid hn
  have ho := h.o1
  have hb := h.blk
  rw [sectors_length, ← hz] at ho hb
  have HO := Lib.hid ho
  obtain ⟨k0, _⟩ := hb.cells
  have HK0 := Lib.hid k0
  have HGL : Hid (g < w.heap.size) := (Array.getElem?_eq_some_iff.1 hb).1
  have hmk := make_cap4 n (by omega)
  have HM : Hid (OwnB (w.alloc (.cells (madeCells #[Value.int .u8 0] n) 5)) w.heap.size 5 (.slice (some ⟨w.heap.size, 0, none⟩) 0 n) 0 []) := World.ownsRow_made w _ n (Nat.le_refl _) (by unfold maxLen; omega) (by rw [size_madeCells]; omega)
  have HB0 := Lib.hid ((Below.refl w.heap.size w).alloc (Nat.le_refl _) (.cells (madeCells #[Value.int .u8 0] n) 5))
  clear h ho hb k0 h512 hn hz
  go_enter Try.func17, Try.ntmps17
  go_wp2
  generalize w.alloc (.cells (madeCells #[Value.int .u8 0] n) 5) = w1 at *
  clear hmk
  go_loopg [1, 7] z (fun gk v v' wr => ∃ (i : Nat) (A : Option Addr) (c : Nat), i + gk = z ∧ v = .int .i64 ((512 * i : Nat) : Int) ∧ v' = .slice A (512 * i) c ∧ OwnB wr w.heap.size 5 (.slice A (512 * i) c) (512 * i) (now.take (512 * i)) ∧ Below w.heap.size w wr)
  case atStart => exact ⟨0, _, n, by omega, rfl, rfl, by simpa using HM.out, HB0.out⟩
  case round =>
    clear HM HB0
    obtain ⟨i, A, c, hi, rfl, rfl, hown, hbel⟩ := hrel
    have HOWN := Lib.hid hown
    have HBEL := Lib.hid hbel
    clear hown hbel
    by_cases hiz : i < z
    · rcases own_A HO.out with ⟨_, h0, _⟩ | ⟨b1, rfl⟩
      · omega
      have hc1 : z ≤ c1 := own_cap4 HO.out
      have hk := (HBEL.out.cell (p := ⟨g, 0, none⟩) HGL.out).trans HK0.out
      have hsl : (secAt i now).length = 512 := secAt_length (by rw [← HNL.out]; omega)
      obtain ⟨q0, _⟩ := own_cell1 (j := i) (u := .string ⟨(secAt i now).toArray⟩) HO.out (by
        have hin : i < now.length / 512 := by rw [← HNL.out]; omega
        unfold strCells sectors
        rw [List.getElem?_map, List.getElem?_map, List.getElem?_range hin]
        rfl)
      have q1 := (HBEL.out.cell (p := ⟨b1, i, none⟩) (own_at HO.out)).trans q0
      obtain ⟨m, hmi⟩ : ∃ m, m = 512 * i := ⟨_, rfl⟩
      have HMI := Lib.hid hmi
      have HTK : Hid (now.take (512 * (i + 1)) = now.take m ++ secAt i now) := by
        show _ = _
        unfold secAt
        rw [hmi, show 512 * (i + 1) = 512 * i + 512 by omega, List.take_add]
      rw [← hmi] at HOWN ⊢
      have hd1 : (m : Int) / 512 = (i : Int) := by omega
      have hd2 : (m : Int) % 512 = 0 := by omega
      have hmn : m + 512 ≤ n := by omega
      have hd3 : decide ((m : Int) < (n : Int)) = true := by simp; omega
      have hd4 : decide ((z : Int) ≤ (i : Int)) = false := by simp; omega
      generalize hst : (⟨(secAt i now).toArray⟩ : ByteArray) = str at *
      have HSC : Hid (Lib.strCells str = byteCells (secAt i now)) := by
        show _ = _
        rw [← hst]
        rfl
      have hsz : str.size = 512 := by rw [← hst]; exact hsl
      have HBA := HBEL.out.size
      have hext : str.extract 0 512 = str := by rw [← hsz]; exact ByteArray.extract_zero_size
      obtain ⟨i0, ji, jz0, jz1, jz2⟩ := info_parts byteInfo4
      have JI := Lib.hid ji
      have JZ := Lib.hid jz0
      have J1 := Lib.hid jz1
      have J2 := Lib.hid jz2
      clear ji jz0 jz1 jz2
      clear q0 hsl hst hmi hiz
      go_wp2_with (at_builtin; refine Lib.wpList_append_own_string wr rfl (.tmp 54) (.tmp 55) 25 9 rfl w.heap.size 5 i0 Try.underlying25 Try.underlying9 JI.out JZ.out J1.out J2.out (.slice A m c) m _ rfl HOWN.out str rfl (by unfold maxLen; omega) (by omega) HBA ?_; intro v2 w2 hown2 hgr _; have HOWN2 := Lib.hid hown2; have HGR := Lib.hid hgr; clear hown2 hgr)
      go_roundg (gk - 1)
      case measure => have := HMI.out; omega
      case rel =>
        have ho2 := HOWN2.out
        rw [hsz, HSC.out, ← byteCells_append, ← HTK.out] at ho2
        have e5 : m + 512 = 512 * (i + 1) := by have := HMI.out; omega
        rw [e5] at ho2
        obtain ⟨A', c', rfl⟩ := own_form' ho2
        refine ⟨i + 1, A', c', by omega, ?_, rfl, ho2, HBEL.out.grown HGR.out HBEL.out.size (own_base HOWN.out)⟩
        congr 1
        omega
    · obtain rfl : i = z := by omega
      have e : now.take (512 * i) = now := List.take_of_length_le (by rw [← HNL.out]; omega)
      rw [e] at HOWN
      rw [hz5] at HOWN ⊢
      have hll : decide ((n : Int) < (n : Int)) = false := by simp
      go_wp2
      go_ret
      exact ⟨A, c, rfl, HOWN.out, HBEL.out⟩
end Go.Proofs.Ytjedhemjojcekaa
