/- The contracts of Go, Sum and Join, over a table that lies in memory, and of the reference's Go and Sum: none of them changes the memory. -/
import Derived.Test.YtacfigopfgmdfaaCrcMake
namespace Go.Proofs.Ytacfigopfgmdfaa
open Go.RowKit CrcP

/-- The table lies at block g, whole. -/
def Table (w : World) (g : Nat) : Prop := w.heap[g]? = some (.cells tabCells 25 (0, 0))
theorem Table.at_ {w : World} {g : Nat} (h : Table w g) (i : Nat) (hi : i < 256) : w.cell? ⟨g, i, none⟩ = some (.int .u32 (tabAt i : Int)) := by
  rw [cell_of_row w g i tabCells _ _ h]
  exact tabCells_at i hi

theorem u32_xor_cast {t a : Nat} (ht : t < 4294967296) (ha : a / 256 < 4294967296) : bits .xor .u32 (t : Int) ((a : Int) / 256) = ((t ^^^ a / 256 : Nat) : Int) := by
  rw [← u32_xor_nat t (a / 256) ht ha]
  rfl
theorem u32_xor_all {t : Nat} (ht : t < 4294967296) : bits .xor .u32 (t : Int) 4294967295 = ((t ^^^ 4294967295 : Nat) : Int) := by
  rw [← u32_xor_nat t 4294967295 ht (by omega)]
  rfl
theorem goN_take {bs : List UInt8} {k : Nat} {x : UInt8} (n : Nat) (h : bs[k]? = some x) : goN n (bs.take (k + 1)) = goStep (goN n (bs.take k)) x.toNat := by
  rw [List.take_add_one, h]
  exact goN_snoc n _ x

set_option maxRecDepth 100000 in
set_option maxHeartbeats 1000000 in
theorem go_any (g : Nat) (n : Int) (A : Option Addr) (l c : Nat) (bs : List UInt8) (B : Nat) (w : World) (h0 : 0 ≤ n) (h1 : n < 4294967296) (hl : bs.length = l) (hm : l ≤ 9223372036854775807)
    (hT : Table w g) (hb : Bytes w B A bs) :
    Calls Try.prog 10 #[.pointer (some ⟨g, 0, none⟩), .int .u32 n, .slice A l c] w fun e w' => e = .returned (.int .u32 (goN n.toNat bs : Nat)) ∧ w = w' := by
  obtain ⟨m, rfl⟩ := Int.eq_ofNat_of_zero_le h0
  rw [Int.toNat_natCast]
  have hm32 : m < 4294967296 := by omega
  clear h0 h1
  have HL := Lib.hid hl
  have HT := Lib.hid hT.at_
  have HB : Hid (Bytes w B A bs) := hb
  clear hl hT hb
  go_enter Try.func10, Try.ntmps10
  go_wp2
  go_loop [1, 13] (fun n i => ∃ k : Nat, k ≤ l ∧ i = .int .i64 k ∧ n = .int .u32 (goN m (bs.take k) : Nat)) (fun _ i => l - (intOf i).toNat)
  case atStart => exact ⟨0, Nat.zero_le _, rfl, rfl⟩
  case round =>
    obtain ⟨k, hk, rfl, rfl⟩ := hrel
    have hlt := goN_lt (bs.take k) hm32
    by_cases hkl : k < l
    · obtain ⟨x, hxk⟩ := get_lt (bs := bs) (k := k) (by rw [HL.out]; exact hkl)
      have HS := Lib.hid (goN_take m hxk)
      obtain ⟨b, o, rfl, hbB, hcell⟩ := HB.out (by rw [byteCells_length, HL.out]; omega)
      have hc := hcell k _ (byteCells_get hxk)
      have hx : x.toNat < 256 := UInt8.toNat_lt x
      clear hcell hxk
      generalize goN m (bs.take k) = a at *
      generalize x.toNat = x at *
      have hxor : a % 256 ^^^ x < 256 := Nat.xor_lt_two_pow (n := 8) (by omega) (by omega)
      have ht := HT.out (a % 256 ^^^ x) hxor
      have htl := tabAt_lt hxor
      have HSS : Hid (goStep a x = tabAt (a % 256 ^^^ x) ^^^ a / 256) := rfl
      generalize tabAt (a % 256 ^^^ x) = t at *
      generalize hj : a % 256 ^^^ x = j at *
      have hb8 : bits .xor .u8 ((a : Int) % 256) (x : Int) = (j : Int) := by
        have h := u8_xor_nat (a % 256) x (by omega) hx
        rw [hj] at h
        rw [← h]
        rfl
      clear hj
      go_wp2
      go_round
      case rel => exact ⟨k + 1, by omega, by go_num, by rw [HS.out, HSS.out]; exact congrArg _ (u32_xor_cast htl (by omega))⟩
      case measure => simp [intOf]; omega
    · obtain rfl : k = l := by omega
      have HK : Hid (bs.take k = bs) := List.take_of_length_le (by rw [HL.out]; exact Nat.le_refl _)
      go_wp2
      go_ret
      exact ⟨ret_int (by rw [HK.out]), rfl⟩

theorem goN_sum (a b : List UInt8) : goN (goN 4294967295 a) b ^^^ 4294967295 = sumN (a ++ b) := by unfold sumN; rw [goN_append]

set_option maxRecDepth 100000 in
set_option maxHeartbeats 1000000 in
theorem join_any (g : Nat) (A₁ : Option Addr) (l₁ c₁ : Nat) (bs₁ : List UInt8) (A₂ : Option Addr) (l₂ c₂ : Nat) (bs₂ : List UInt8) (B : Nat) (w : World) (hl₁ : bs₁.length = l₁) (hm₁ : l₁ ≤ 9223372036854775807)
    (hl₂ : bs₂.length = l₂) (hm₂ : l₂ ≤ 9223372036854775807) (hT : Table w g) (hb₁ : Bytes w B A₁ bs₁) (hb₂ : Bytes w B A₂ bs₂) :
    Calls Try.prog 12 #[.pointer (some ⟨g, 0, none⟩), .slice A₁ l₁ c₁, .slice A₂ l₂ c₂] w fun e w' => e = .returned (.int .u32 (sumN (bs₁ ++ bs₂) : Nat)) ∧ w = w' := by
  have H1 := Lib.hid hl₁
  have H2 := Lib.hid hl₂
  have HT : Hid (Table w g) := hT
  have HB1 : Hid (Bytes w B A₁ bs₁) := hb₁
  have HB2 : Hid (Bytes w B A₂ bs₂) := hb₂
  clear hl₁ hl₂ hT hb₁ hb₂
  go_enter Try.func12, Try.ntmps12
  go_wp2_with fail
  refine (go_any g _ _ _ _ bs₁ B _ (by omega) (by omega) H1.out hm₁ HT.out HB1.out).mono ?_
  rintro e w' ⟨rfl, rfl⟩
  have hlt : goN 4294967295 bs₁ < 4294967296 := goN_lt bs₁ (by omega)
  have HS := Lib.hid (goN_sum bs₁ bs₂)
  rw [show (4294967295 : Int).toNat = 4294967295 from rfl]
  generalize goN 4294967295 bs₁ = a at *
  go_wp2_with fail
  refine (go_any g _ _ _ _ bs₂ B _ (by omega) (by omega) H2.out hm₂ HT.out HB2.out).mono ?_
  rintro e w' ⟨rfl, rfl⟩
  rw [Int.toNat_natCast]
  have hlt2 : goN a bs₂ < 4294967296 := goN_lt bs₂ hlt
  generalize goN a bs₂ = d at *
  go_wp2
  go_ret
  exact ⟨ret_int (by rw [← HS.out]; exact u32_xor_all hlt2), rfl⟩

set_option maxRecDepth 100000 in
set_option maxHeartbeats 1000000 in
theorem sum_any (g : Nat) (A : Option Addr) (l c : Nat) (bs : List UInt8) (B : Nat) (w : World) (hl : bs.length = l) (hm : l ≤ 9223372036854775807) (hT : Table w g) (hb : Bytes w B A bs) :
    Calls Try.prog 11 #[.pointer (some ⟨g, 0, none⟩), .slice A l c] w fun e w' => e = .returned (.int .u32 (sumN bs : Nat)) ∧ w = w' := by
  have H1 := Lib.hid hl
  have HT : Hid (Table w g) := hT
  have HB1 : Hid (Bytes w B A bs) := hb
  clear hl hT hb
  go_enter Try.func11, Try.ntmps11
  go_wp2_with fail
  refine (join_any g _ _ _ bs _ 0 _ [] B _ H1.out hm rfl (by omega) HT.out HB1.out (Cells.nil _ _ _)).mono ?_
  rintro e w' ⟨rfl, rfl⟩
  rw [List.append_nil]
  go_wp2
  go_ret
  exact ⟨rfl, rfl⟩

/-! A table that is not there tells 0. -/
set_option maxHeartbeats 400000 in
theorem go_nil (n : Int) (v : Value) (w : World) : Calls Try.prog 10 #[.pointer none, .int .u32 n, v] w fun e w' => e = .returned (.int .u32 0) ∧ w = w' := by
  go_enter Try.func10, Try.ntmps10
  go_wp2
  go_ret
  exact ⟨rfl, rfl⟩
set_option maxHeartbeats 400000 in
theorem join_nil (u v : Value) (w : World) : Calls Try.prog 12 #[.pointer none, u, v] w fun e w' => e = .returned (.int .u32 0) ∧ w = w' := by
  go_enter Try.func12, Try.ntmps12
  go_wp2
  go_ret
  exact ⟨rfl, rfl⟩
set_option maxHeartbeats 400000 in
theorem sum_nil (u : Value) (w : World) : Calls Try.prog 11 #[.pointer none, u] w fun e w' => e = .returned (.int .u32 0) ∧ w = w' := by
  go_enter Try.func11, Try.ntmps11
  go_wp2_with (go_at_call 12; refine (join_nil _ _ _).mono ?_; rintro e w' ⟨rfl, rfl⟩)
  go_ret
  exact ⟨rfl, rfl⟩

end Go.Proofs.Ytacfigopfgmdfaa
