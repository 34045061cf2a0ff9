/- The contracts of layer 3's writer: Len, Bytes, Align; slices.Clone; a writer that isn't there; lives. -/
import Derived.Test.YtaknladkodibaaaGreatDoorMgQ353SBitsPut
import Derived.Deep.QuietTactic
import Derived.BigQuiet
import Derived.Test.YtaknladkodibaaaGreatDoorMgQ35302
import Derived.Deep.RegionWith
namespace Go.Proofs.YtaknladkodibaaaGreatDoor
open Go.RowKit BitsP

set_option maxHeartbeats 400000 in
theorem clone_any (A : Option Addr) (l c B : Nat) (bs : List UInt8) (w : World) (hl : bs.length = l) (hm : l ≤ 1099511627776) (hB : B ≤ w.heap.size) (hb : Bytes w B A bs) :
    Calls Tryz.prog 68 #[.slice A l c] w fun e w' => ∃ A' c', e = .returned (.slice A' l c') ∧ OwnB w' w.heap.size 5 (.slice A' l c') l bs ∧ Below w.heap.size w w' := by
  have HL := Lib.hid hl
  have HB : Hid (Bytes w B A bs) := hb
  have hnil := Lib.run_eql_slice_nil (P := Tryz.prog) w 25 5 A l c 0 0 Tryz.underlying25
  clear hl hb
  cases A with
  | none =>
    have h0 : l = 0 := by
      rcases Nat.eq_zero_or_pos l with h0 | h0
      · exact h0
      · obtain ⟨_, _, h, _⟩ := HB.out (by rw [byteCells_length, HL.out]; exact h0)
        cases h
    subst h0
    have HN : Hid (bs = []) := List.eq_nil_of_length_eq_zero HL.out
    go_enter Tryz.func68, Tryz.ntmps68
    go_wp2
    go_ret
    exact ⟨none, 0, rfl, by rw [HN.out]; exact World.ownsRow_nil _ _ _ _, Below.refl _ _⟩
  | some ad =>
    go_enter Tryz.func68, Tryz.ntmps68
    go_wp2_with (at_builtin; refine wpList_app _ byteElem3 rfl (.tmp 5) (.tmp 6) rfl w.heap.size (.slice (some ⟨w.heap.size, 0, none⟩) 0 0) 0 [] rfl (own_empty w _ (Nat.le_refl _)) B (some ad) l c (byteCells bs) rfl (by rw [byteCells_length, HL.out, Nat.mul_one]) (HB.out.alloc hB _) (byteCells_one _) (by unfold maxLen; omega) (by omega) (by simp) ?_; intro A1 c1 w1 hA; have HA := Lib.hid hA; clear hA)
    simp only [Nat.zero_add, List.nil_append] at HA ⊢
    go_ret
    exact ⟨A1, c1, rfl, HA.out.own, HA.out.below ((Below.refl w.heap.size w).alloc (Nat.le_refl _) (.cells #[] 5)) (by simp) (by simp [Value.ownBlock])⟩

set_option maxHeartbeats 400000 in
theorem wbytes_any (g base : Nat) (S : Nat → Prop) (L : List Bool) (w : World) (h : WrS w g base S L) (hL : L.length ≤ 1099511627776) :
    Calls Tryz.prog 67 #[.pointer (some ⟨g, 0, none⟩)] w fun e w' => ∃ A c, e = .returned (.slice A (pack L).length c) ∧ OwnB w' w.heap.size 5 (.slice A (pack L).length c) (pack L).length (pack L) ∧ Below w.heap.size w w' := by
  obtain ⟨whole, R, hsp, A, c, hb, hown, rfl⟩ := h
  have hlen := hsp.length
  have HP := Lib.hid (pack_eq hsp)
  have HB := Lib.hid hb
  have HOWN := Lib.hid hown
  obtain ⟨c0, c1, c2, f0, f1, f2⟩ := hb.cells
  clear hsp hb hown f0 f1 f2
  cases R with
  | nil =>
    have HP2 : Hid (pack L = whole) := HP.out.trans (pk_nil _)
    go_enter Tryz.func67, Tryz.ntmps67
    go_wp2_with fail
    refine (clone_any A whole.length c w.heap.size whole w rfl (by omega) (Nat.le_refl _) (Cells.of_own HOWN.out)).mono ?_
    rintro e w1 ⟨A1, c1', rfl, hown, hbel⟩
    have HO1 := Lib.hid hown
    have HBEL := Lib.hid hbel
    have hc2 := hbel.cell (p := ⟨g, 2, none⟩) HB.out.lt
    rw [c2] at hc2
    clear hown hbel c0 c1 c2
    go_wp2
    go_ret
    refine ⟨A1, c1', by rw [HP2.out]; rfl, by rw [HP2.out]; exact HO1.out, HBEL.out⟩
  | cons b0 R =>
    have HP2 : Hid (pack L = whole ++ [UInt8.ofNat (num (b0 :: R))]) := HP.out.trans (pk_some (by simp))
    have hpos : (0 : Int) < (((b0 :: R).length : Nat) : Int) := by rw [List.length_cons]; omega
    generalize num (b0 :: R) = r at *
    generalize (b0 :: R).length = k at *
    go_enter Tryz.func67, Tryz.ntmps67
    go_wp2_with fail
    refine (clone_any A whole.length c w.heap.size whole w rfl (by omega) (Nat.le_refl _) (Cells.of_own HOWN.out)).mono ?_
    rintro e w1 ⟨A1, c1', rfl, hown, hbel⟩
    have HO1 := Lib.hid hown
    have HBEL := Lib.hid hbel
    have hc2 := hbel.cell (p := ⟨g, 2, none⟩) HB.out.lt
    rw [c2] at hc2
    have hc1 := hbel.cell (p := ⟨g, 1, none⟩) HB.out.lt
    rw [c1] at hc1
    clear hown hbel c0 c1 c2
    go_wp2_with (at_builtin; refine wpList_app1 _ byteElem3 rfl (.tmp 16) (.tmp 22) rfl w.heap.size (.slice A1 whole.length c1') whole.length _ rfl HO1.out _ rfl rfl (by simp [Value.oneCell']) (by unfold maxLen; omega) (by omega) HBEL.out.size ?_; intro A2 c2' w2 hA; have HA := Lib.hid hA; clear hA)
    go_ret
    have e1 : (pack L).length = whole.length + 1 := by rw [HP2.out, List.length_append]; rfl
    have e2 : byteCells whole ++ [Value.int .u8 (IntKind.u8.wrap (r : Int))] = byteCells (pack L) := by
      rw [HP2.out, byteCells_append]
      congr 1
    refine ⟨A2, c2', by rw [e1]; rfl, ?_, HA.out.below HBEL.out HBEL.out.size (own_base HO1.out)⟩
    have := HA.out.own
    rw [e1]
    unfold OwnB
    rw [← e2]
    exact this

end Go.Proofs.YtaknladkodibaaaGreatDoor
/- The contracts of the reference's Row, Fill and Pack of layer 3. -/
namespace Go.Proofs.YtaknladkodibaaaGreatDoor
open Go.RowKit BitsP

theorem div_p2 (n k : Nat) : n / p2 k / 2 = n / p2 (k + 1) := by rw [p2, Nat.mul_comm, Nat.div_div_eq_div_mul]
theorem bit_cell (x : Nat) : Value.int .u8 ((x : Int) % 2) = Value.int .u8 (((if decide (x % 2 = 1) then (1 : UInt8) else 0).toNat : Nat) : Int) := by
  rw [← bit_byte]
  congr 1
  simp
  omega
theorem bitBytes_snoc (L : List Bool) (b : Bool) : byteCells (bitBytes (L ++ [b])) = byteCells (bitBytes L) ++ [Value.int .u8 (((if b then (1 : UInt8) else 0).toNat : Nat) : Int)] := by
  rw [bitBytes_append, byteCells_append]
  rfl

set_option maxRecDepth 100000 in
set_option maxHeartbeats 400000 in
theorem refRow_any (n b : Int) (w : World) (n0 : 0 ≤ n) (n1 : n < 4294967296) (b0 : -9223372036854775808 ≤ b) (b1 : b ≤ 9223372036854775807) :
    Calls Tryz.prog 140 #[.int .u32 n, .int .i64 b] w fun e w' => ∃ A c, e = .returned (.slice A (cnt b) c) ∧ OwnB w' w.heap.size 5 (.slice A (cnt b) c) (cnt b) (bitBytes (bitsOf n.toNat (cnt b))) ∧ Below w.heap.size w w' := by
  obtain ⟨m, rfl⟩ := Int.eq_ofNat_of_zero_le n0
  rw [Int.toNat_natCast]
  have HCNT := Lib.hid (fun W => width3_any b W b0 b1)
  have hc := cnt_le b
  clear b0 b1
  generalize cnt b = q at *
  go_enter Tryz.func140, Tryz.ntmps140
  go_wp2
  go_loopg [0, 5, 6] q (fun gk nk vk i wr => ∃ k : Nat, k + gk = q ∧ i = .int .i64 k ∧ nk = .int .u32 (m / p2 k : Nat) ∧ OwnB wr w.heap.size 5 vk k (bitBytes (bitsOf m k)) ∧ Below w.heap.size w wr)
  case atStart => exact ⟨0, by omega, rfl, by simp [p2], World.ownsRow_nil _ _ _ _, Below.refl _ _⟩
  case round =>
    obtain ⟨k, hk, rfl, rfl, hown, hbel⟩ := hrel
    have HOWN := Lib.hid hown
    have HBEL := Lib.hid hbel
    clear hown hbel
    have hle : m / p2 k ≤ m := Nat.div_le_self _ _
    have HS : Hid (bitsOf m (k + 1) = bitsOf m k ++ [decide (m / p2 k % 2 = 1)]) := bitsOf_snoc m k
    have HD := Lib.hid (div_p2 m k)
    generalize m / p2 k = x at *
    obtain ⟨A, c, rfl⟩ := own_form HOWN.out
    by_cases hkq : k < q
    · go_wp2_with (first | (go_at_call 145; refine (HCNT.out _).mono ?_; rintro e w' ⟨rfl, rfl⟩) | (at_builtin; refine wpList_app1 _ byteElem3 rfl (.tmp 13) (.tmp 17) rfl w.heap.size (.slice A k c) k _ rfl HOWN.out _ rfl rfl (by simp [Value.oneCell']) (by unfold maxLen; omega) (by omega) HBEL.out.size ?_; intro A' c' w2 hA; have HA := Lib.hid hA; clear hA))
      go_roundg (gk - 1)
      case measure => omega
      case rel =>
        refine ⟨k + 1, by omega, by go_num, by rw [← HD.out]; go_num, ?_, HA.out.below HBEL.out HBEL.out.size (own_base HOWN.out)⟩
        have := HA.out.own
        rw [HS.out]
        unfold OwnB
        rw [bitBytes_snoc, ← bit_cell]
        exact this
    · obtain rfl : k = q := by omega
      go_wp2_with (go_at_call 145; refine (HCNT.out _).mono ?_; rintro e w' ⟨rfl, rfl⟩)
      go_ret
      exact ⟨A, c, rfl, HOWN.out, HBEL.out⟩

theorem take_succ' {L : List Bool} {i : Nat} {b : Bool} (h : L[i]? = some b) : L.take (i + 1) = L.take i ++ [b] := by rw [List.take_add_one, h]; rfl
theorem num_snoc (R : List Bool) (b : Bool) : num (R ++ [b]) = num R + p2 R.length * bit b := by rw [num_append]; simp [num]

/-- What the reference has put out behind i bits. -/
def outs (L : List Bool) (i : Nat) (whole : List UInt8) (R : List Bool) : List UInt8 := if i = L.length then pk whole R else whole

theorem unpack_snoc {whole : List UInt8} {R : List Bool} {b : Bool} {T : List Bool} (h : T = unpack whole ++ R) (h8 : R.length = 7) : T ++ [b] = unpack (whole ++ [UInt8.ofNat (num (R ++ [b]))]) ++ [] := by
  rw [unpack_append, unpack_one (by rw [List.length_append, h8]; rfl), h, List.append_nil, List.append_assoc]

theorem out_byte {r pr : Nat} (h : r + pr < 256) : Value.int .u8 ((r : Int) + (pr : Int)) = Value.int .u8 (((UInt8.ofNat (r + pr)).toNat : Nat) : Int) := by
  congr 1
  simp [UInt8.toNat_ofNat']
  omega

set_option maxRecDepth 100000 in
set_option maxHeartbeats 1000000 in
theorem refPack_any (A : Option Addr) (l c B : Nat) (L : List Bool) (w : World) (hl : L.length = l) (hm : l ≤ 1099511627776) (hB : B ≤ w.heap.size) (hb : Bytes w B A (bitBytes L)) :
    Calls Tryz.prog 72 #[.slice A l c] w fun e w' => ∃ A' c', e = .returned (.slice A' (pack L).length c') ∧ OwnB w' w.heap.size 5 (.slice A' (pack L).length c') (pack L).length (pack L) ∧ Below w.heap.size w w' := by
  have HL := Lib.hid hl
  have HB : Hid (Bytes w B A (bitBytes L)) := hb
  clear hl hb
  go_enter Tryz.func72, Tryz.ntmps72
  go_wp2
  go_loopg [3, 4, 5, 6] l (fun gk vk nk uk i wr => ∃ (k : Nat) (whole : List UInt8) (R : List Bool) (x y : Int), k + gk = l ∧ i = .int .i64 k ∧ L.take k = unpack whole ++ R ∧ R.length < 8 ∧ nk = .int .i64 x ∧ uk = .int .i64 y ∧ (k < l → x = (num R : Nat) ∧ y = (p2 R.length : Nat)) ∧ OwnB wr w.heap.size 5 vk (outs L k whole R).length (outs L k whole R) ∧ Below w.heap.size w wr)
  case atStart =>
    have e0 : outs L 0 [] [] = [] := by unfold outs; split <;> rfl
    exact ⟨0, [], [], 0, 1, by omega, rfl, rfl, by decide, rfl, rfl, fun _ => ⟨rfl, rfl⟩, by rw [e0]; exact World.ownsRow_nil _ _ _ _, Below.refl _ _⟩
  case round =>
    obtain ⟨k, whole, R, x, y, hk, rfl, htk, hR, rfl, rfl, hxy, hown, hbel⟩ := hrel
    have HOWN := Lib.hid hown
    have HBEL := Lib.hid hbel
    have HTK := Lib.hid htk
    have hlen := congrArg List.length htk
    rw [List.length_take, List.length_append, unpack_length, HL.out] at hlen
    clear hown hbel htk
    by_cases hkl : k < l
    · obtain ⟨rfl, rfl⟩ := hxy hkl
      have HOUT : Hid (outs L k whole R = whole) := by show outs L k whole R = whole; unfold outs; rw [if_neg (by rw [HL.out]; omega)]
      rw [HOUT.out] at HOWN
      obtain ⟨bt, hbt⟩ := get_lt (bs := L) (k := k) (by rw [HL.out]; exact hkl)
      have HTS := Lib.hid (take_succ' hbt)
      obtain ⟨b', o, rfl, hbB, hcell⟩ := HB.out.below HBEL.out hB (by rw [byteCells_length, bitBytes_length, HL.out]; omega)
      have hc := hcell k _ (byteCells_get (bitBytes_get hbt))
      have HNS := Lib.hid (num_snoc R bt)
      have hn7 := num_lt R
      have hu : p2 R.length ≤ 128 := p2_le (show R.length ≤ 7 by omega)
      have hwl : 8 * whole.length + R.length = k := by omega
      have HPS : Hid (p2 (R ++ [bt]).length = p2 R.length * 2) := by show _ = _; rw [List.length_append]; show p2 (R.length + 1) = _; rw [p2, Nat.mul_comm]
      have hz : ((if bt then (1 : UInt8) else 0).toNat) = bit bt := by cases bt <;> rfl
      rw [hz] at hc
      have hbl := bit_le bt
      have hpp : p2 R.length * bit bt ≤ 128 := Nat.le_trans (Nat.mul_le_mul hu hbl) (by omega)
      have hprod : IntKind.i64.wrap ((p2 R.length : Int) * (bit bt : Int)) = ((p2 R.length * bit bt : Nat) : Int) := by
        rw [← Int.natCast_mul]
        exact IntWalk.i64_in _ (by omega)
      clear hcell hbt hlen hz
      obtain ⟨A1, c1, rfl⟩ := own_form HOWN.out
      generalize num R = r at *
      generalize p2 R.length * bit bt = pr at *
      generalize p2 R.length = u at *
      generalize bit bt = z at *
      by_cases h7 : R.length = 7
      · have ht : ((k : Int) % 8 == 7) = true := by simp; omega
        have H7 := Lib.hid h7
        clear h7
        go_wp2_with (at_builtin; refine wpList_app1 _ byteElem3 rfl (.tmp 34) (.tmp 37) rfl w.heap.size (.slice A1 whole.length c1) whole.length _ rfl HOWN.out _ rfl rfl (by simp [Value.oneCell']) (by unfold maxLen; omega) (by omega) HBEL.out.size ?_; intro A' c' w2 hA; have HA := Lib.hid hA; clear hA)
        go_roundg (gk - 1)
        case measure => omega
        case rel =>
          refine ⟨k + 1, whole ++ [UInt8.ofNat (num (R ++ [bt]))], [], 0, 1, by omega, by go_num, ?_, by simp, rfl, rfl, fun _ => ⟨rfl, rfl⟩, ?_, HA.out.below HBEL.out HBEL.out.size (own_base HOWN.out)⟩
          · rw [HTS.out]; exact unpack_snoc HTK.out H7.out
          · have e0 : outs L (k + 1) (whole ++ [UInt8.ofNat (num (R ++ [bt]))]) [] = whole ++ [UInt8.ofNat (num (R ++ [bt]))] := by unfold outs; split <;> simp [pk]
            rw [e0, List.length_append]
            unfold OwnB
            rw [byteCells_append]
            have := HA.out.own
            rw [HNS.out]
            rwa [out_byte (show r + pr < 256 by omega)] at this
      · have ht : ((k : Int) % 8 == 7) = false := by simp; omega
        have h7' : R.length < 7 := by omega
        by_cases hlast : k + 1 = l
        · have ht2 : ((k : Int) == (l : Int) - 1) = true := by simp; omega
          have HKL := Lib.hid hlast
          clear h7 hlast
          go_wp2_with (at_builtin; refine wpList_app1 _ byteElem3 rfl (.tmp 34) (.tmp 37) rfl w.heap.size (.slice A1 whole.length c1) whole.length _ rfl HOWN.out _ rfl rfl (by simp [Value.oneCell']) (by unfold maxLen; omega) (by omega) HBEL.out.size ?_; intro A' c' w2 hA; have HA := Lib.hid hA; clear hA)
          go_roundg (gk - 1)
          case measure => omega
          case rel =>
            refine ⟨k + 1, whole, R ++ [bt], 0, 1, by omega, by go_num, ?_, by rw [List.length_append]; show R.length + 1 < 8; omega, rfl, rfl, fun h => absurd h (by have := HKL.out; omega), ?_, HA.out.below HBEL.out HBEL.out.size (own_base HOWN.out)⟩
            · rw [HTS.out, HTK.out, List.append_assoc]
            · have e0 : outs L (k + 1) whole (R ++ [bt]) = whole ++ [UInt8.ofNat (num (R ++ [bt]))] := by unfold outs; rw [if_pos (by rw [HL.out]; exact HKL.out)]; exact pk_some (by simp)
              rw [e0, List.length_append]
              unfold OwnB
              rw [byteCells_append]
              have := HA.out.own
              rw [HNS.out]
              rwa [out_byte (show r + pr < 256 by omega)] at this
        · have ht2 : ((k : Int) == (l : Int) - 1) = false := by simp; omega
          clear h7
          go_wp2
          go_roundg (gk - 1)
          case measure => omega
          case rel =>
            refine ⟨k + 1, whole, R ++ [bt], _, _, by omega, by go_num, ?_, by rw [List.length_append]; show R.length + 1 < 8; omega, rfl, rfl, fun _ => ⟨by rw [HNS.out]; omega, by rw [HPS.out]; omega⟩, ?_, HBEL.out⟩
            · rw [HTS.out, HTK.out, List.append_assoc]
            · have e0 : outs L (k + 1) whole (R ++ [bt]) = whole := by unfold outs; rw [if_neg (by rw [HL.out]; omega)]
              rw [e0]
              exact HOWN.out
    · obtain rfl : l = k := by omega
      have HE : Hid (outs L l whole R = pack L) := by
        show _ = _
        unfold outs
        rw [if_pos HL.out.symm, pack_eq (w := whole) (R := R) ⟨by rw [← HTK.out]; exact (List.take_of_length_le (by rw [HL.out]; exact Nat.le_refl _)).symm, hR⟩]
      obtain ⟨A1, c1, rfl⟩ := own_form HOWN.out
      rw [HE.out] at HOWN
      clear hlen hxy
      rw [HE.out]
      go_wp2
      go_ret
      exact ⟨A1, c1, rfl, HOWN.out, HBEL.out⟩
end Go.Proofs.YtaknladkodibaaaGreatDoor
/- The contracts of layer 3's reader, and of the reference's Unpack and Number. -/
namespace Go.Proofs.YtaknladkodibaaaGreatDoor
open Go.RowKit BitsP
attribute [local go_sem ↓] Go.wp_at_zero Go.wp_at_succ

/-- A reader's block. -/
def RdB (w : World) (g : Nat) (A : Option Addr) (l c p : Nat) : Prop := w.heap[g]? = some (.cells #[.slice A l c, .int .i64 (p : Int)] 248 (0, 0))
theorem RdB.cells {w : World} {g : Nat} {A : Option Addr} {l c p : Nat} (h : RdB w g A l c p) : w.cell? ⟨g, 0, none⟩ = some (.slice A l c) ∧ w.cell? ⟨g, 1, none⟩ = some (.int .i64 (p : Int)) ∧ w.frozen? ⟨g, 1, none⟩ = false :=
  ⟨cell_of_row w g 0 _ _ _ h, cell_of_row w g 1 _ _ _ h, frozen_of_row w g 1 _ _ h⟩
/-- A reader of bytes, at a place. -/
def RdS (w : World) (g base : Nat) (S : Nat → Prop) (bs : List UInt8) (p : Nat) : Prop :=
  ∃ A c, RdB w g A bs.length c p ∧ OwnB w base 5 (.slice A bs.length c) bs.length bs ∧ S = orS (oneB g) (ownS (.slice A bs.length c)) ∧ p ≤ 8 * bs.length ∧ bs.length ≤ c
theorem RdS.keep {w w' : World} {g base : Nat} {S T : Nat → Prop} {bs : List UInt8} {p : Nat} (h : RdS w g base S bs p) (hm : Mod T w w') (hd : ∀ k, S k → ¬ T k) : RdS w' g base S bs p := by
  obtain ⟨A, c, hb, hown, rfl, hp, hc⟩ := h
  exact ⟨A, c, hm.keep hb (hd g (.inl rfl)), own_keep hown hm (fun k hk => hd k (.inr hk)), rfl, hp, hc⟩
theorem RdS.lt {w : World} {g base : Nat} {S : Nat → Prop} {bs : List UInt8} {p : Nat} (h : RdS w g base S bs p) : ∀ k, S k → k < w.heap.size := by
  obtain ⟨A, c, hb, hown, rfl, hp⟩ := h
  intro k hk
  rcases hk with rfl | hk
  · exact (Array.getElem?_eq_some_iff.1 hb).1
  · exact own_lt hown k hk
theorem RdS.drewN {w : World} {g base : Nat} {S : Nat → Prop} {bs : List UInt8} {p : Nat} (h : RdS w g base S bs p) (n : Nat) : RdS (w.drewN n) g base S bs p := h
end Go.Proofs.YtaknladkodibaaaGreatDoor
/- The contracts of the reader's Take and Align, and of the reference's Unpack and Number. -/
namespace Go.Proofs.YtaknladkodibaaaGreatDoor
open Go.RowKit BitsP
attribute [local go_sem ↓] Go.wp_at_zero Go.wp_at_succ

/-- What Take tells. -/
def takes (bs : List UInt8) (p q : Nat) : Nat := if p + q ≤ 8 * bs.length then num (((unpack bs).drop p).take q) else 0
end Go.Proofs.YtaknladkodibaaaGreatDoor
/- Layer 8: the reference's bits of a code. -/
namespace Go.Proofs.YtaknladkodibaaaGreatDoor
open Go.RowKit BitsP

theorem codeB_succ (v i : Nat) : codeB v (i + 1) = decide (v / p2 i % 2 = 1) :: codeB v i := by
  unfold codeB
  rw [bitsOf_snoc, List.reverse_append]
  rfl
set_option maxHeartbeats 1000000 in
theorem refBits_any (v n : Nat) (w : World) (hv : v < 32768) (hn : n ≤ 15) :
    Calls Tryz.prog 166 #[.int .i64 (v : Int), .int .i64 (n : Int)] w
      fun e w' => ∃ A c, e = .returned (.slice A n c) ∧ OwnB w' w.heap.size 5 (.slice A n c) n (bitBytes (codeB v n)) ∧ Below w.heap.size w w' := by
  go_enter Tryz.func166, Tryz.ntmps166
  go_wp2
  go_loopg [0, 5, 6] n (fun gk nk vk i wr => ∃ k : Nat, k + gk = n ∧ i = .int .i64 k ∧ nk = .int .i64 (v / p2 k : Nat) ∧ OwnB wr w.heap.size 5 vk k (bitBytes (codeB v k)) ∧ Below w.heap.size w wr)
  case atStart => exact ⟨0, by omega, rfl, by simp [p2], World.ownsRow_nil _ _ _ _, Below.refl _ _⟩
  case round =>
    obtain ⟨k, hk, rfl, rfl, hown, hbel⟩ := hrel
    have HOWN := Lib.hid hown
    have HBEL := Lib.hid hbel
    have hsz := hbel.size
    clear hown hbel
    have hle : v / p2 k ≤ v := Nat.div_le_self _ _
    have HS := Lib.hid (codeB_succ v k)
    have HD := Lib.hid (div_p2 v k)
    generalize v / p2 k = x at *
    obtain ⟨A, c, rfl⟩ := own_form HOWN.out
    by_cases hkq : k < n
    · obtain ⟨W1, hW1⟩ : ∃ W1, wr.alloc (.cells #[.int .u8 ((x : Int) % 2)] 5) = W1 := ⟨_, rfl⟩
      have HO1 : Hid (W1.ownsRow w.heap.size 5 1 (.slice (some ⟨wr.heap.size, 0, none⟩) 1 1) 1 [.int .u8 ((x : Int) % 2)]) := by
        show World.ownsRow _ _ _ _ _ _ _
        rw [← hW1]
        exact World.ownsRow_lit wr #[.int .u8 ((x : Int) % 2)] 1 hsz (by unfold maxLen; omega) rfl
      have HB1 : Hid (Below w.heap.size w W1) := by show Below _ _ _; rw [← hW1]; exact HBEL.out.alloc hsz _
      have HC1 : Hid (Cells W1 W1.heap.size A (byteCells (bitBytes (codeB v k)))) := by
        show Cells _ _ _ _
        rw [← hW1]
        exact ((Cells.of_own HOWN.out).alloc (Nat.le_refl _) _).more (by simp)
      have hcl : (byteCells (bitBytes (codeB v k))).length = k * 1 := by rw [byteCells_length, bitBytes_length, codeB_len, Nat.mul_one]
      go_wp2_with (at_builtin; refine wpList_app _ byteElem3 rfl (.tmp 15) (.tmp 16) rfl w.heap.size (.slice (some ⟨wr.heap.size, 0, none⟩) 1 1) 1 _ rfl HO1.out _ _ k c (byteCells (bitBytes (codeB v k))) rfl hcl HC1.out (byteCells_one _) (by unfold maxLen; omega) (by omega) HB1.out.size ?_; intro A' c' w2 hA; have HA := Lib.hid hA; clear hA)
      go_roundg (gk - 1)
      case measure => omega
      case rel =>
        refine ⟨k + 1, by omega, by go_num, by rw [← HD.out]; go_num, ?_, HA.out.below HB1.out HB1.out.size (own_base HO1.out)⟩
        have := HA.out.own
        rw [HS.out]
        unfold OwnB
        rw [Nat.add_comm k 1]
        rw [bit_cell] at this
        exact this
    · obtain rfl : k = n := by omega
      go_wp2
      go_ret
      exact ⟨A, c, rfl, HOWN.out, HBEL.out⟩
end Go.Proofs.YtaknladkodibaaaGreatDoor
/- The contract of layer 3's lives, and the walk of BitsCut. -/
namespace Go.Proofs.YtaknladkodibaaaGreatDoor
open Go.RowKit BitsP
attribute [local go_sem ↓] Go.wp_at_zero Go.wp_at_succ

theorem WrS.keep {w w' : World} {g base : Nat} {S T : Nat → Prop} {L : List Bool} (h : WrS w g base S L) (hm : Mod T w w') (hd : ∀ k, S k → ¬ T k) : WrS w' g base S L := by
  obtain ⟨whole, R, hsp, A, c, hb, hown, rfl⟩ := h
  exact ⟨whole, R, hsp, A, c, hm.keep hb (hd g (.inl rfl)), own_keep hown hm (fun k hk => hd k (.inr hk)), rfl⟩
theorem WrS.lt {w : World} {g base : Nat} {S : Nat → Prop} {L : List Bool} (h : WrS w g base S L) : ∀ k, S k → k < w.heap.size := by
  obtain ⟨whole, R, hsp, A, c, hb, hown, rfl⟩ := h
  intro k hk
  rcases hk with rfl | hk
  · exact hb.lt
  · exact own_lt hown k hk
/-- The cells of a zero writer. -/
def zeroWr : Array Value := #[.slice none 0 0, .int .u64 0, .int .i64 0]
theorem ownS_nil (k : Nat) : ¬ ownS (.slice none 0 0) k := fun h => by cases h
theorem WrS.zero {w : World} {g : Nat} (base : Nat) (h : w.heap[g]? = some (.cells zeroWr 114 (0, 0))) : WrS w g base (oneB g) [] := by
  refine ⟨[], [], Split.nil, none, 0, h, World.ownsRow_nil _ _ _ _, ?_⟩
  funext k
  apply propext
  exact ⟨fun h => .inl h, fun h => h.elim id fun h => absurd h (ownS_nil k)⟩

theorem str_any (w : World) (A : Option Addr) (l c B : Nat) (bs : List UInt8) (h : Bytes w B A bs) (hl : bs.length = l) : (convert 25 9 (.slice A l c)).run Tryz.prog w = .ok (.string ⟨bs.toArray⟩) w :=
  run_string_of 25 9 5 Tryz.underlying25 Tryz.underlying5 Tryz.underlying9 h hl

end Go.Proofs.YtaknladkodibaaaGreatDoor
