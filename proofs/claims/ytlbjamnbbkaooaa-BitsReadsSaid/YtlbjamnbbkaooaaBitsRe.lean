/- The contracts of the reader's Take and Align, and of the reference's Unpack and Number. -/
import Derived.Test.YtlbjamnbbkaooaaBitsRd
namespace Go.Proofs.Ytlbjamnbbkaooaa
open Go.RowKit BitsP
attribute [local go_sem ↓] Go.wp_at_zero Go.wp_at_succ

/-- What Take tells. -/
def takes (bs : List UInt8) (p q : Nat) : Nat := if p + q ≤ 8 * bs.length then num (((unpack bs).drop p).take q) else 0
theorem takes_yes {bs : List UInt8} {p q : Nat} (h : p + q ≤ 8 * bs.length) : takes bs p q = num (((unpack bs).drop p).take q) := if_pos h
theorem takes_no {bs : List UInt8} {p q : Nat} (h : ¬ p + q ≤ 8 * bs.length) : takes bs p q = 0 := if_neg h

set_option maxHeartbeats 400000 in
theorem rtake_any (g base : Nat) (S : Nat → Prop) (bs : List UInt8) (p : Nat) (b : Int) (w : World) (h : RdS w g base S bs p) (hm : bs.length ≤ 1099511627776) (b0 : -9223372036854775808 ≤ b) (b1 : b ≤ 9223372036854775807) :
    Calls Try.prog 34 #[.pointer (some ⟨g, 0, none⟩), .int .i64 b] w fun e w' => e = .returned (.tuple #[.int .u32 (takes bs p (cnt b) : Nat), .bool (fits p (cnt b) bs.length)]) ∧ RdS w' g base S bs (onTo p (cnt b) bs.length) ∧ Mod (oneB g) w w' := by
  have HP := Lib.hid (rpeek_any g base S bs p b w h hm b0 b1)
  have HSK := Lib.hid (fun W hW => rskip_any g base S bs p b W hW hm b0 b1)
  have HS : Hid (RdS w g base S bs p) := h
  clear h b0 b1
  generalize cnt b = q at *
  by_cases hfit : p + q ≤ 8 * bs.length
  · have HF := Lib.hid (fits_yes hfit).1
    have HT := Lib.hid (takes_yes hfit)
    have hf := (fits_yes hfit).1
    rw [← HT.out] at HP
    generalize takes bs p q = z at *
    go_enter Try.func34, Try.ntmps34
    go_wp2_with fail
    refine HP.out.mono ?_
    rintro e w1 ⟨rfl, nd, rfl⟩
    go_wp2_with fail
    refine (HSK.out _ (HS.out.drewN nd)).mono ?_
    rintro e w2 ⟨rfl, hr, hmod⟩
    have HR := Lib.hid hr
    have HM := Lib.hid (((Mod.refl (oneB g) w).drewN nd).then_ hmod)
    clear hr hmod
    go_wp2
    go_ret2
    exact ⟨by rw [HF.out]; rfl, HR.out, HM.out⟩
  · have HF := Lib.hid (fits_no hfit).1
    have HT := Lib.hid (takes_no hfit)
    have hf := (fits_no hfit).1
    go_enter Try.func34, Try.ntmps34
    go_wp2_with fail
    refine HP.out.mono ?_
    rintro e w1 ⟨rfl, nd, rfl⟩
    go_wp2_with fail
    refine (HSK.out _ (HS.out.drewN nd)).mono ?_
    rintro e w2 ⟨rfl, hr, hmod⟩
    have HR := Lib.hid hr
    have HM := Lib.hid (((Mod.refl (oneB g) w).drewN nd).then_ hmod)
    clear hr hmod
    go_wp2
    go_ret2
    exact ⟨by rw [HF.out, HT.out]; rfl, HR.out, HM.out⟩

set_option maxHeartbeats 400000 in
theorem ralign_any (g base : Nat) (S : Nat → Prop) (bs : List UInt8) (p : Nat) (w : World) (h : RdS w g base S bs p) (hm : bs.length ≤ 1099511627776) :
    Calls Try.prog 37 #[.pointer (some ⟨g, 0, none⟩)] w fun e w' => e = .returned (.tuple #[]) ∧ RdS w' g base S bs (p + lack p) ∧ Mod (oneB g) w w' := by
  have HA := Lib.hid (rat_any g base S bs p w h)
  have HS : Hid (RdS w g base S bs p) := h
  obtain ⟨A, c, hb, hown, rfl, hp, hc⟩ := h
  obtain ⟨c0, c1, f1⟩ := hb.cells
  clear hb hown c0 hc
  have hpb : p ≤ 8796093022208 := by omega
  by_cases h8 : p % 8 = 0
  · have ht : ((p : Int) % 8 != 0) = false := by simp; omega
    have HL := Lib.hid (lack_zero h8)
    clear h8 hp
    go_enter Try.func37, Try.ntmps37
    go_wp2_with (go_at_call 38; refine HA.out.mono ?_; rintro e w' ⟨rfl, rfl⟩)
    go_end0
    exact ⟨rfl, by rw [HL.out]; exact HS.out, Mod.refl _ _⟩
  · have ht : ((p : Int) % 8 != 0) = true := by rw [bne_iff_ne]; omega
    have HE : Hid ((p : Int) + (8 - (p : Int) % 8) = ((p + lack p : Nat) : Int)) := by show _ = _; unfold lack; omega
    have HLE : Hid (p + lack p ≤ 8 * bs.length) := by show _ ≤ _; unfold lack; omega
    obtain ⟨r, hr, hr1, hr2⟩ : ∃ r : Nat, (p : Int) % 8 = (r : Int) ∧ 1 ≤ r ∧ r < 8 := ⟨p % 8, by omega, by omega, by omega⟩
    have hw1 : IntKind.i64.wrap (8 - (r : Int)) = 8 - (r : Int) := IntWalk.i64_in _ (by omega)
    have hw2 : IntKind.i64.wrap ((p : Int) + (8 - (r : Int))) = (p : Int) + (8 - (r : Int)) := IntWalk.i64_in _ (by omega)
    have hr' : (p : Int).tmod 8 = (r : Int) := by rw [Int.tmod_eq_emod_of_nonneg (by omega)]; exact hr
    rw [hr] at HE ht
    clear h8 hp
    go_enter Try.func37, Try.ntmps37
    go_wp2_with (go_at_call 38; refine HA.out.mono ?_; rintro e w' ⟨rfl, rfl⟩)
    go_still_tail 13, (by kernel_rfl)
    change wpList _ _ _ _ _ w.drew
    have hf2 : w.drew.frozen? ⟨g, 1, none⟩ = false := f1
    have hc2 : w.drew.cell? ⟨g, 1, none⟩ = some (.int .i64 (p : Int)) := c1
    have HS2 : Hid (RdS w.drew g base _ bs p) := HS.out
    have HM2 := Lib.hid (Mod.refl (oneB g) w).drew
    clear c1 f1 HS hw1 hw2
    generalize w.drew = w2 at *
    go_wp2
    go_end0
    exact ⟨rfl, HS2.out.move (p + lack p) HLE.out _ HE.out, HM2.out.set _ _ (.inl rfl)⟩

theorem bitBytes_unpack_one (x : UInt8) : bitsOf x.toNat 8 = unpack [x] := by rw [unpack, unpack, List.append_nil]

set_option maxRecDepth 100000 in
set_option maxHeartbeats 400000 in
theorem refUnpack_any (A : Option Addr) (l c : Nat) (bs : List UInt8) (w : World) (hl : bs.length = l) (hm : l ≤ 1099511627) (hb : Bytes w w.heap.size A bs) :
    Calls Try.prog 30 #[.slice A l c] w fun e w' => ∃ A' c', e = .returned (.slice A' (8 * l) c') ∧ OwnB w' w.heap.size 5 (.slice A' (8 * l) c') (8 * l) (bitBytes (unpack bs)) ∧ Below w.heap.size w w' := by
  have HL := Lib.hid hl
  have HB : Hid (Bytes w w.heap.size A bs) := hb
  clear hl hb
  go_enter Try.func30, Try.ntmps30
  go_wp2
  go_loopg [3, 4] l (fun gk v i wr => ∃ (k : Nat) (A' : Option Addr) (c' : Nat), k + gk = l ∧ i = .int .i64 k ∧ v = .slice A' (8 * k) c' ∧ OwnB wr w.heap.size 5 (.slice A' (8 * k) c') (8 * k) (bitBytes (unpack (bs.take k))) ∧ Below w.heap.size w wr)
  case atStart => exact ⟨0, none, 0, by omega, rfl, rfl, World.ownsRow_nil _ _ _ _, Below.refl _ _⟩
  case round =>
    obtain ⟨k, A1, c1, hk, rfl, rfl, hown, hbel⟩ := hrel
    have HOWN := Lib.hid hown
    have HBEL := Lib.hid hbel
    clear hown hbel
    by_cases hkl : k < l
    · obtain ⟨x, hxk⟩ := get_lt (bs := bs) (k := k) (by rw [HL.out]; exact hkl)
      obtain ⟨b', o, rfl, hbB, hcell⟩ := HB.out.below HBEL.out (Nat.le_refl _) (by rw [byteCells_length, HL.out]; omega)
      have hc := hcell k _ (byteCells_get hxk)
      have hx : x.toNat < 256 := UInt8.toNat_lt x
      have HT : Hid (unpack (bs.take (k + 1)) = unpack (bs.take k) ++ bitsOf x.toNat 8) := by
        show _ = _
        rw [List.take_add_one, hxk, unpack_append, bitBytes_unpack_one]
        rfl
      have HNL : Hid ((bitsOf x.toNat 8).length = 8) := bitsOf_length _ _
      have HREF := Lib.hid (fun W => refRow_any (x.toNat : Int) 8 W (by omega) (by omega) (by omega) (by omega))
      rw [show cnt 8 = 8 from rfl, Int.toNat_natCast] at HREF
      clear hcell hxk
      generalize bitsOf x.toNat 8 = NB at *
      generalize x.toNat = x at *
      generalize h8k : 8 * k = k8 at *
      have H8 := Lib.hid h8k
      have hk8 : k8 ≤ 8796093016 := by omega
      clear h8k
      go_wp2_with (first
        | (go_at_call 26; refine (HREF.out _).mono ?_; rintro e w2 ⟨A2, c2, rfl, hown2, hbel2⟩; have HO2 := Lib.hid (Cells.of_own hown2); have HOWN1 := Lib.hid (own_keep HOWN.out (Mod.of_below hbel2) (fun _ _ h => h)); have HBEL2 := Lib.hid (HBEL.out.trans (hbel2.mono HBEL.out.size)); clear hown2 hbel2)
        | (at_builtin; refine wpList_app _ byteElem3 rfl (.tmp 11) (.tmp 17) rfl w.heap.size (.slice A1 k8 c1) k8 (byteCells (bitBytes (unpack (bs.take k)))) rfl HOWN1.out w2.heap.size A2 8 c2 (byteCells (bitBytes NB)) rfl (by rw [byteCells_length, bitBytes_length, HNL.out]) HO2.out (byteCells_one _) (by unfold maxLen; omega) (by omega) HBEL2.out.size ?_; intro A3 c3 w3 hA; have HA := Lib.hid hA; clear hA))
      go_roundg (gk - 1)
      case measure => omega
      case rel =>
        have e : 8 * (k + 1) = k8 + 8 := by rw [← H8.out]; omega
        refine ⟨k + 1, A3, c3, by omega, by go_num, by rw [e], ?_, HA.out.below HBEL2.out HBEL2.out.size (own_base HOWN1.out)⟩
        rw [e, HT.out, OwnB, bitBytes_append, byteCells_append]
        exact HA.out.own
    · obtain rfl : l = k := by omega
      have HK : Hid (bs.take l = bs) := List.take_of_length_le (by rw [HL.out]; exact Nat.le_refl _)
      go_wp2
      go_ret
      exact ⟨A1, c1, rfl, by rw [HK.out] at HOWN; exact HOWN.out, HBEL.out⟩

set_option maxRecDepth 100000 in
set_option maxHeartbeats 1000000 in
theorem refNumber_any (A : Option Addr) (l c B : Nat) (L : List Bool) (a : Nat) (b : Int) (w : World) (hl : L.length = l) (hm : l ≤ 1099511627776) (ha : a ≤ 1099511627776) (b0 : -9223372036854775808 ≤ b) (b1 : b ≤ 9223372036854775807) (hb : Bytes w B A (bitBytes L)) :
    Calls Try.prog 33 #[.slice A l c, .int .i64 a, .int .i64 b] w fun e w' => e = .returned (.int .u32 (num ((L.drop a).take (cnt b)) : Nat)) ∧ w = w' := by
  have HL := Lib.hid hl
  have HB : Hid (Bytes w B A (bitBytes L)) := hb
  have HCNT := Lib.hid (fun W => width3_any b W b0 b1)
  have hq := cnt_le b
  clear hl hb b0 b1
  generalize cnt b = q at *
  go_enter Try.func33, Try.ntmps33
  go_wp2
  go_loopg [1, 7, 8, 9] q (fun gk at_ n u i wr => ∃ k : Nat, k + gk = q ∧ at_ = .int .i64 (a + k : Nat) ∧ n = .int .u32 (num ((L.drop a).take k) : Nat) ∧ u = .int .u32 (p2 k % 4294967296 : Nat) ∧ i = .int .i64 k ∧ wr = w)
  case atStart => exact ⟨0, by omega, rfl, by simp [num], rfl, rfl, rfl⟩
  case round =>
    obtain ⟨k, hk, rfl, rfl, rfl, rfl, rfl⟩ := hrel
    by_cases hkq : k < q
    · have hpk := p2_le (show k ≤ 31 by omega)
      have hp31 : p2 31 = 2147483648 := rfl
      have hmod : p2 k % 4294967296 = p2 k := Nat.mod_eq_of_lt (by omega)
      have hu2 : IntKind.u32.wrap ((p2 k : Int) * 2) = ((p2 (k + 1) % 4294967296 : Nat) : Int) := by
        rw [IntKind.wrap_u32, p2]
        omega
      have hak : ((a + k : Nat) : Int) = (a : Int) + (k : Int) := by omega
      have hvl := num_from_lt L a k
      rw [hmod]
      by_cases hin : a + k < l
      · obtain ⟨bt, hbt⟩ := get_lt (bs := L) (k := a + k) (by rw [HL.out]; exact hin)
        have HS := Lib.hid (num_from_some hbt)
        have hvl2 := num_from_lt L a (k + 1)
        rw [HS.out] at hvl2
        obtain ⟨b', o, rfl, hbB, hcell⟩ := HB.out (by rw [byteCells_length, bitBytes_length, HL.out]; omega)
        have hc := hcell (a + k) _ (byteCells_get (bitBytes_get hbt))
        have hz : ((if bt then (1 : UInt8) else 0).toNat) = bit bt := by cases bt <;> rfl
        rw [hz] at hc
        have hbl := bit_le bt
        have hp2 : p2 (k + 1) ≤ 4294967296 := p2_lt32 (by omega)
        have hprod : IntKind.u32.wrap ((p2 k : Int) * (bit bt : Int)) = ((p2 k * bit bt : Nat) : Int) := by
          rw [← Int.natCast_mul]
          exact IntWalk.u32_in _ (by omega)
        have hprod' : IntKind.u32.wrap ((bit bt : Int)) = ((bit bt : Nat) : Int) := IntWalk.u32_in _ (by omega)
        clear hcell hbt hz hmod
        generalize num ((L.drop a).take k) = m at *
        generalize p2 k * bit bt = pr at *
        generalize bit bt = z at *
        generalize hu2e : p2 (k + 1) % 4294967296 = u2 at *
        have HU := Lib.hid hu2e
        clear hu2e
        generalize p2 k = u at *
        go_wp2_with (go_at_call 32; refine (HCNT.out _).mono ?_; rintro e w' ⟨rfl, rfl⟩)
        go_roundg (gk - 1)
        case measure => omega
        case rel => exact ⟨k + 1, by omega, by go_num, by rw [HS.out]; go_num, by rw [HU.out], by go_num, rfl⟩
      · have HS := Lib.hid (num_from_none (L := L) (a := a) (i := k) (by rw [HL.out]; omega))
        have hin' : decide (((a : Int) + (k : Int)) < (l : Int)) = false := by simp; omega
        clear hmod
        generalize num ((L.drop a).take k) = m at *
        generalize hu2e : p2 (k + 1) % 4294967296 = u2 at *
        have HU := Lib.hid hu2e
        clear hu2e
        generalize p2 k = u at *
        go_wp2_with (go_at_call 32; refine (HCNT.out _).mono ?_; rintro e w' ⟨rfl, rfl⟩)
        go_roundg (gk - 1)
        case measure => omega
        case rel => exact ⟨k + 1, by omega, by go_num, by rw [HS.out], by rw [HU.out], by go_num, rfl⟩
    · obtain rfl : q = k := by omega
      go_wp2_with (go_at_call 32; refine (HCNT.out _).mono ?_; rintro e w' ⟨rfl, rfl⟩)
      go_ret
      exact ⟨rfl, rfl⟩
end Go.Proofs.Ytlbjamnbbkaooaa
