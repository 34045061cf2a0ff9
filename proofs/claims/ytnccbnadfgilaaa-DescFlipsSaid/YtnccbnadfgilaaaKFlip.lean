/- The reference's Flip and Same. -/
import Derived.Test.YtnccbnadfgilaaaKCrc
import Derived.Test.YtnccbnadfgilaaaCrcBits
import Derived.Test.YtnccbnadfgilaaaGrow
import Derived.RegionTactic
import Derived.Deep.DeepCutAuto
import Derived.Laws.CopyOwn
import Derived.Test.YtnccbnadfgilaaaKSts
namespace Go.Proofs.Ytnccbnadfgilaaa
open Go.RowKit CrcP

theorem bit_value {bs : List UInt8} {p : Nat} {x : UInt8} (h : bs[p / 8]? = some x) : (x.toNat / 2 ^ (p % 8)) % 2 = (bitAt bs p).toNat := by
  unfold bitAt
  rw [h]
  show _ = (x.toNat.testBit (p % 8)).toNat
  rw [Nat.testBit_eq_decide_div_mod_eq]
  rcases Nat.mod_two_eq_zero_or_one (x.toNat / 2 ^ (p % 8)) with h | h <;> simp [h]
theorem half_pow (x i : Nat) : x / 2 ^ (i + 1) = x / 2 ^ i / 2 := by rw [Nat.pow_succ, Nat.div_div_eq_div_mul]
set_option maxRecDepth 100000 in
set_option maxHeartbeats 400000 in
theorem refBit_any (A : Option Addr) (l c : Nat) (bs : List UInt8) (B : Nat) (a : Int) (p : Nat) (w : World) (ha : a = (p : Int)) (hl : bs.length = l) (hp : p / 8 < l) (hpm : p ≤ 9223372036854775807) (hlm : l ≤ 9223372036854775807) (hb : Bytes w B A bs) :
    Calls Try.prog 37 #[.slice A l c, .int .i64 a] w fun e w' => e = .returned (.int .i64 ((bitAt bs p).toNat : Nat)) ∧ w = w' := by
  subst ha
  obtain ⟨x, hx⟩ := get_lt (bs := bs) (k := p / 8) (by omega)
  obtain ⟨b, o, rfl, _, hcell⟩ := hb (by rw [byteCells_length]; omega)
  have hc := hcell _ _ (byteCells_get hx)
  have HV := Lib.hid (bit_value hx)
  have hxb : x.toNat < 256 := UInt8.toNat_lt x
  have hi : (p : Int) / 8 < (l : Int) := by omega
  have hr : (p : Int) % 8 < 8 := by omega
  clear hcell hb hl hx hp
  generalize x.toNat = y at *
  go_enter Try.func37, Try.ntmps37
  go_wp2
  go_loop [5, 6] (fun n i => ∃ k : Nat, k ≤ p % 8 ∧ i = .int .i64 k ∧ n = .int .i64 (y / 2 ^ k : Nat)) (fun _ i => 8 - (intOf i).toNat)
  case atStart => exact ⟨0, Nat.zero_le _, rfl, by simp⟩
  case round =>
    obtain ⟨k, hk, rfl, rfl⟩ := hrel
    have hv : y / 2 ^ k ≤ y := Nat.div_le_self _ _
    have HS := Lib.hid (half_pow y k)
    by_cases hkr : k < p % 8
    · have ht : decide ((k : Int) < (p : Int) % 8) = true := by simp; omega
      generalize y / 2 ^ k = v at *
      go_wp2
      go_round
      case rel => exact ⟨k + 1, by omega, by go_num, by rw [HS.out]; rfl⟩
      case measure => simp [intOf]; omega
    · have ht : decide ((k : Int) < (p : Int) % 8) = false := by simp; omega
      obtain rfl : k = p % 8 := by omega
      have HV2 := Lib.hid HV.out
      clear HV
      generalize y / 2 ^ (p % 8) = v at *
      go_wp2
      go_ret
      exact ⟨ret_int (by rw [← HV2.out]; rfl), rfl⟩
/-- One more bit of a flip. -/
theorem flipK_yes {bs : List UInt8} {q m k : Nat} {x : UInt8} (h : m / 2 ^ k % 2 = 1) (hx : (flipK bs q m k)[(q + k) / 8]? = some x) :
    flipK bs q m (k + 1) = (flipK bs q m k).set ((q + k) / 8) (UInt8.ofNat (x.toNat ^^^ 2 ^ ((q + k) % 8))) := by
  rw [flipK, if_pos h, flipAt, hx]
theorem flipK_no {bs : List UInt8} {q m k : Nat} (h : ¬ m / 2 ^ k % 2 = 1) : flipK bs q m (k + 1) = flipK bs q m k := by
  rw [flipK, if_neg h]
theorem flipK_out {bs : List UInt8} {q m k : Nat} (h : bs.length ≤ (q + k) / 8) : flipK bs q m (k + 1) = flipK bs q m k := flipK_end bs q m k h 1
theorem byteCells_set (bs : List UInt8) (i : Nat) (y : UInt8) : byteCells (bs.set i y) = (byteCells bs).set i (.int .u8 (y.toNat : Int)) := by
  unfold byteCells
  rw [List.map_set]
theorem add_or_sub : ∀ x < 256, ∀ r < 8, (x.testBit r = true → 2 ^ r ≤ x ∧ x - 2 ^ r = x ^^^ 2 ^ r) ∧ (x.testBit r = false → x + 2 ^ r < 256 ∧ x + 2 ^ r = x ^^^ 2 ^ r) := by decide +kernel
set_option maxRecDepth 100000 in
set_option maxHeartbeats 400000 in
theorem refFlip_any (A : Option Addr) (l c : Nat) (bs : List UInt8) (a : Int) (bits : Int) (w : World) (hl : bs.length = l) (hm : l ≤ 1000000) (ha1 : 0 ≤ a) (ha2 : a ≤ 1099511627776)
    (h0 : 0 ≤ bits) (h1 : bits < 4294967296) (hb : Bytes w w.heap.size A bs) :
    Calls Try.prog 19 #[.slice A l c, .int .i64 a, .int .u32 bits] w fun e w' => ∃ A' c', e = .returned (.slice A' l c') ∧ Bytes w' w'.heap.size A' (flipK bs a.toNat bits.toNat 32) ∧ Below w.heap.size w w' ∧ l ≤ c' := by
  obtain ⟨m, rfl⟩ := Int.eq_ofNat_of_zero_le h0
  obtain ⟨q, rfl⟩ := Int.eq_ofNat_of_zero_le ha1
  rw [Int.toNat_natCast, Int.toNat_natCast]
  have HL := Lib.hid hl
  have HB : Hid (Bytes w w.heap.size A bs) := hb
  obtain ⟨i0, hi, hz0, hz1, hz2⟩ := info_parts byteInfo
  have HI : Hid (Try.prog.info? 5 = some i0 ∧ i0.zero = some (.int .u8 0) ∧ i0.size = 1 ∧ i0.bytes = 1) := ⟨hi, hz0, hz1, hz2⟩
  have HOWN := Lib.hid (own_empty w 5 (Nat.le_refl _))
  clear hl hb h0 ha1 hi hz0 hz1 hz2
  go_enter Try.func19, Try.ntmps19
  go_wp2_with (at_builtin; refine wpList_append_cells _ rfl (.tmp 12) (.tmp 13) 22 rfl w.heap.size 5 i0 (.int .u8 0) 1 Try.underlying22 HI.out.1 HI.out.2.1 HI.out.2.2.1 HI.out.2.2.2 rfl (.slice (some ⟨w.heap.size, 0, none⟩) 0 0) 0 [] rfl HOWN.out _ A l c (byteCells bs) rfl (by rw [byteCells_length, HL.out]) (HB.out.alloc (Nat.le_refl _) _) (byteCells_one _) (by unfold maxLen; omega) (by omega) (by simp) ?_; intro A' c' w3 hown hgrow hat; simp only [Nat.zero_add, List.nil_append] at hown ⊢; have HOWN3 := Lib.hid hown; have HBL3 := Lib.hid (((Below.refl w.heap.size w).alloc (Nat.le_refl _) (.cells #[] 5)).grown hgrow (by simp) (by simp [Value.ownBlock])); clear hown hgrow hat)
  clear HB HOWN HI
  go_loopw [1, 8, 9] (fun a n i wr => ∃ k : Nat, k ≤ 32 ∧ i = .int .i64 k ∧ a = .int .i64 ((q + k : Nat) : Int) ∧ n = .int .u32 ((m / 2 ^ k : Nat) : Int) ∧ OwnB wr w.heap.size 5 (.slice A' l c') l (flipK bs q m k) ∧ Below w.heap.size w wr) (fun _ _ i _ => 32 - (intOf i).toNat)
  case atStart => exact ⟨0, by omega, rfl, rfl, by simp, HOWN3.out, HBL3.out⟩
  case round =>
    obtain ⟨k, hk, rfl, rfl, rfl, hown, hbel⟩ := hrel
    have HO := Lib.hid hown
    have HBL := Lib.hid hbel
    clear hown hbel HOWN3 HBL3
    by_cases hlt : k < 32
    · have hd : decide ((k : Int) < 32) = true := by simp; omega
      have HV := Lib.hid (half_pow m k)
      have hv : m / 2 ^ k ≤ m := Nat.div_le_self _ _
      have HK1 := Lib.hid (fun (x : UInt8) h => flipK_yes (bs := bs) (q := q) (m := m) (k := k) (x := x) h)
      have HK0 := Lib.hid (fun h => flipK_no (bs := bs) (q := q) (m := m) (k := k) h)
      have HKO := Lib.hid (fun h => flipK_out (bs := bs) (q := q) (m := m) (k := k) h)
      have HLK : Hid ((flipK bs q m k).length = l) := by rw [length_flipK]; exact HL.out
      have HPS : Hid (q + (k + 1) = (q + k) + 1) := rfl
      have hpb : q + k ≤ 1099511628000 := by omega
      generalize m / 2 ^ k = v at *
      generalize flipK bs q m k = cur at *
      generalize q + k = P at *
      by_cases hbit : v % 2 = 1
      · have hb1 : ((v : Int) % 2 == 1) = true := by simp; omega
        by_cases hin : P / 8 < l
        · have hin' : decide ((P : Int) / 8 < (l : Int)) = true := by simp; omega
          have hinI : (P : Int) / 8 < (l : Int) := by omega
          obtain ⟨x, hx⟩ := get_lt (bs := cur) (k := P / 8) (by rw [HLK.out]; omega)
          obtain ⟨g, cc, hA⟩ : ∃ g cc, Value.slice A' l c' = .slice (some ⟨g, 0, none⟩) l cc := by
            rcases HO.out.2 with ⟨_, h⟩ | ⟨g, cap, _, h, _⟩
            · omega
            · exact ⟨g, cap, h⟩
          obtain ⟨rfl, rfl⟩ : A' = some ⟨g, 0, none⟩ ∧ c' = cc := by
            simp only [Value.slice.injEq] at hA
            exact ⟨hA.1, hA.2.2⟩
          have hc : wr.cell? ⟨g, P / 8, none⟩ = some (.int .u8 (x.toNat : Int)) := by
            rw [HO.out.cellAt (P / 8) (by omega)]
            exact byteCells_get hx
          have hf := HO.out.frozenAt (P / 8)
          have HBIT := Lib.hid hbit
          have HX := Lib.hid (HK1.out x hbit hx)
          have HXX := Lib.hid hx
          have HIN := Lib.hid hin
          clear hbit hin hA hx HK1 HK0 HKO
          go_wp2
          go_loop [10, 11] (fun u i => ∃ j : Nat, j ≤ P % 8 ∧ i = .int .i64 j ∧ u = .int .i64 ((2 ^ j : Nat) : Int)) (fun _ i => 8 - (intOf i).toNat)
          case atStart => exact ⟨0, Nat.zero_le _, rfl, rfl⟩
          case round =>
            obtain ⟨j, hj, rfl, rfl⟩ := hrel
            have HS : Hid (2 ^ (j + 1) = 2 ^ j * 2) := Nat.pow_succ ..
            have hu : 2 ^ j ≤ 2 ^ 7 := Nat.pow_le_pow_right (by decide) (by omega : j ≤ 7)
            by_cases hjr : j < P % 8
            · have ht : decide ((j : Int) < (P : Int) % 8) = true := by simp; omega
              generalize 2 ^ j = u at *
              go_wp2
              go_round
              case rel => exact ⟨j + 1, by omega, by go_num, by rw [HS.out]; rfl⟩
              case measure => simp [intOf]; omega
            · have ht : decide ((j : Int) < (P : Int) % 8) = false := by simp; omega
              obtain rfl : j = P % 8 := by omega
              have HAS := Lib.hid (add_or_sub x.toNat (UInt8.toNat_lt x) (P % 8) (by omega))
              have HBV : Hid (bitAt cur P = x.toNat.testBit (P % 8)) := by
                show bitAt cur P = _
                unfold bitAt
                rw [HXX.out]
              have hlt256 : x.toNat ^^^ 2 ^ (P % 8) < 256 := byte_xor_lt x (by omega)
              have HTN : Hid (((UInt8.ofNat (x.toNat ^^^ 2 ^ (P % 8))).toNat : Int) = ((x.toNat ^^^ 2 ^ (P % 8) : Nat) : Int)) := by
                show _ = _
                simp only [UInt8.toNat_ofNat']
                rw [Nat.mod_eq_of_lt hlt256]
              have HST := Lib.hid (HO.out.stored (P / 8) (.int .u8 ((UInt8.ofNat (x.toNat ^^^ 2 ^ (P % 8))).toNat : Int)))
              have hgb : w.heap.size ≤ g := (HO.out.lt g rfl).1
              generalize UInt8.ofNat (x.toNat ^^^ 2 ^ (P % 8)) = y at *
              generalize hz : x.toNat ^^^ 2 ^ (P % 8) = z at *
              generalize 2 ^ (P % 8) = u at *
              have hxb : x.toNat < 256 := UInt8.toNat_lt x
              cases hbt : x.toNat.testBit (P % 8)
              · have HB2 := HBV.out.trans hbt
                obtain ⟨hs1, hs2⟩ := HAS.out.2 hbt
                have HSUM := Lib.hid hs2
                have HB3 := Lib.hid HB2
                clear hbt HB2 hs2 hz HAS
                go_wp2_with fail
                refine (refBit_any _ l c' cur _ _ P wr rfl HLK.out HIN.out (by omega) (by omega) (Cells.of_own HO.out)).mono ?_
                rintro e w' ⟨rfl, rfl⟩
                rw [HB3.out]
                go_wp2
                refine ⟨⟨k + 1, by omega, by go_num, by rw [HPS.out]; go_num, by rw [HV.out]; rfl, ?_, HBL.out.setCell hgb _⟩, by simp [intOf]; omega⟩
                have e : ((x.toNat : Int) + (u : Int)) = (y.toNat : Int) := by rw [HTN.out, ← HSUM.out]; rfl
                rw [e, HX.out]
                show World.ownsRow _ _ _ _ _ _ (byteCells (cur.set (P / 8) y))
                rw [byteCells_set]
                exact HST.out.1
              · have HB2 := HBV.out.trans hbt
                obtain ⟨hs1, hs2⟩ := HAS.out.1 hbt
                have HSUM := Lib.hid hs2
                have HB3 := Lib.hid HB2
                clear hbt HB2 hs2 hz HAS
                go_wp2_with fail
                refine (refBit_any _ l c' cur _ _ P wr rfl HLK.out HIN.out (by omega) (by omega) (Cells.of_own HO.out)).mono ?_
                rintro e w' ⟨rfl, rfl⟩
                rw [HB3.out]
                go_wp2
                refine ⟨⟨k + 1, by omega, by go_num, by rw [HPS.out]; go_num, by rw [HV.out]; rfl, ?_, HBL.out.setCell hgb _⟩, by simp [intOf]; omega⟩
                have e : ((x.toNat : Int) + -(u : Int)) = (y.toNat : Int) := by rw [HTN.out, ← HSUM.out]; omega
                rw [e, HX.out]
                show World.ownsRow _ _ _ _ _ _ (byteCells (cur.set (P / 8) y))
                rw [byteCells_set]
                exact HST.out.1
        · have hin' : decide ((P : Int) / 8 < (l : Int)) = false := by simp; omega
          have HE := Lib.hid (HKO.out (by rw [HL.out]; omega))
          clear hbit hin
          go_wp2
          go_roundw
          case rel => exact ⟨k + 1, by omega, by go_num, by rw [HPS.out]; go_num, by rw [HV.out]; rfl, by rw [HE.out]; exact HO.out, HBL.out⟩
          case measure => simp [intOf]; omega
      · have hb1 : ((v : Int) % 2 == 1) = false := by simp; omega
        have HE := Lib.hid (HK0.out hbit)
        clear hbit
        go_wp2
        go_roundw
        case rel => exact ⟨k + 1, by omega, by go_num, by rw [HPS.out]; go_num, by rw [HV.out]; rfl, by rw [HE.out]; exact HO.out, HBL.out⟩
        case measure => simp [intOf]; omega
    · obtain rfl : k = 32 := by omega
      have HC := Lib.hid (Cells.of_own HO.out)
      go_wp2
      go_ret
      exact ⟨_, _, rfl, HC.out, HBL.out, own_cap (OwnT.of HO.out)⟩
set_option maxRecDepth 100000 in
set_option maxHeartbeats 400000 in
theorem same_any (A₁ : Option Addr) (l₁ c₁ : Nat) (bs₁ : List UInt8) (A₂ : Option Addr) (l₂ c₂ : Nat) (bs₂ : List UInt8) (B₁ B₂ : Nat) (w : World) (hl₁ : bs₁.length = l₁) (hl₂ : bs₂.length = l₂)
    (hb₁ : Bytes w B₁ A₁ bs₁) (hb₂ : Bytes w B₂ A₂ bs₂) :
    Calls Try.prog 20 #[.slice A₁ l₁ c₁, .slice A₂ l₂ c₂] w fun e w' => e = .returned (.bool (decide (bs₁ = bs₂))) ∧ w = w' := by
  have k1 := run_string_of (P := Try.prog) (c := c₁) 22 9 5 Try.underlying22 Try.underlying5 Try.underlying9 hb₁ hl₁
  have k2 := run_string_of (P := Try.prog) (c := c₂) 22 9 5 Try.underlying22 Try.underlying5 Try.underlying9 hb₂ hl₂
  have HS : Hid (∃ s₁ s₂ : ByteArray, s₁ = ⟨bs₁.toArray⟩ ∧ s₂ = ⟨bs₂.toArray⟩) := ⟨_, _, rfl, rfl⟩
  obtain ⟨s₁, s₂, h1, h2⟩ := HS.out
  rw [← h1] at k1
  rw [← h2] at k2
  have H1 := Lib.hid h1
  have H2 := Lib.hid h2
  clear h1 h2 hb₁ hb₂ hl₁ hl₂ HS
  go_enter Try.func20, Try.ntmps20
  go_wp2

  go_ret
  refine ⟨?_, rfl⟩
  show Ending.returned (.bool (s₁.toList == s₂.toList)) = _
  rw [H1.out, H2.out, ByteArray.toList_eq, ByteArray.toList_eq]
  have e : (bs₁ == bs₂) = decide (bs₁ = bs₂) := by
    rw [Bool.eq_iff_iff]
    simp
  rw [← e]
end Go.Proofs.Ytnccbnadfgilaaa
