/- The contracts of the reader's Take and Align, and of the reference's Unpack and Number. -/
import Derived.Test.YtnobeipabfdkjaaBitsRd
namespace Go.Proofs.Ytnobeipabfdkjaa
open Go.RowKit BitsP
attribute [local go_sem ↓] Go.wp_at_zero Go.wp_at_succ

/-- What Take tells. -/
def takes (bs : List UInt8) (p q : Nat) : Nat := if p + q ≤ 8 * bs.length then num (((unpack bs).drop p).take q) else 0
theorem takes_yes {bs : List UInt8} {p q : Nat} (h : p + q ≤ 8 * bs.length) : takes bs p q = num (((unpack bs).drop p).take q) := if_pos h
theorem takes_no {bs : List UInt8} {p q : Nat} (h : ¬ p + q ≤ 8 * bs.length) : takes bs p q = 0 := if_neg h

theorem bitBytes_unpack_one (x : UInt8) : bitsOf x.toNat 8 = unpack [x] := by rw [unpack, unpack, List.append_nil]

set_option maxRecDepth 100000 in
set_option maxHeartbeats 400000 in
theorem refUnpack_any (A : Option Addr) (l c : Nat) (bs : List UInt8) (w : World) (hl : bs.length = l) (hm : l ≤ 1099511627) (hb : Bytes w w.heap.size A bs) :
    Calls Try.prog 19 #[.slice A l c] w fun e w' => ∃ A' c', e = .returned (.slice A' (8 * l) c') ∧ OwnB w' w.heap.size 5 (.slice A' (8 * l) c') (8 * l) (bitBytes (unpack bs)) ∧ Below w.heap.size w w' := by
  have HL := Lib.hid hl
  have HB : Hid (Bytes w w.heap.size A bs) := hb
  clear hl hb
  go_enter Try.func19, Try.ntmps19
  go_wp2
  go_loopg [3, 4] l (fun gk v i wr => ∃ (k : Nat) (A' : Option Addr) (c' : Nat), k + gk = l ∧ i = .int .i64 k ∧ v = .slice A' (8 * k) c' ∧ OwnB wr w.heap.size 5 (.slice A' (8 * k) c') (8 * k) (bitBytes (unpack (bs.take k))) ∧ Below w.heap.size w wr)
  case atStart => exact ⟨0, none, 0, by omega, rfl, rfl, World.ownsRow_nil _ _ _ _, Below.refl _ _⟩
  case round =>
    obtain ⟨k, A1, c1, hk, rfl, rfl, hown, hbel⟩ := hrel
    have HOWN := Lib.hid hown
    have HBEL := Lib.hid hbel
    clear hown hbel
    by_cases hkl : k < l
    · obtain ⟨x, hxk⟩ := get_lt (bs := bs) (k := k) (by rw [HL.out]; exact hkl)
      obtain ⟨b', o, rfl, hbB, hcell⟩ := HB.out.below HBEL.out (Nat.le_refl _) (by rw [byteCells_length, HL.out]; omega)
      have hc := hcell k _ (byteCells_get hxk)
      have hx : x.toNat < 256 := UInt8.toNat_lt x
      have HT : Hid (unpack (bs.take (k + 1)) = unpack (bs.take k) ++ bitsOf x.toNat 8) := by
        show _ = _
        rw [List.take_add_one, hxk, unpack_append, bitBytes_unpack_one]
        rfl
      have HNL : Hid ((bitsOf x.toNat 8).length = 8) := bitsOf_length _ _
      have HREF := Lib.hid (fun W => refRow_any (x.toNat : Int) 8 W (by omega) (by omega) (by omega) (by omega))
      rw [show cnt 8 = 8 from rfl, Int.toNat_natCast] at HREF
      clear hcell hxk
      generalize bitsOf x.toNat 8 = NB at *
      generalize x.toNat = x at *
      generalize h8k : 8 * k = k8 at *
      have H8 := Lib.hid h8k
      have hk8 : k8 ≤ 8796093016 := by omega
      clear h8k
      go_wp2_with (first
        | (go_at_call 34; refine (HREF.out _).mono ?_; rintro e w2 ⟨A2, c2, rfl, hown2, hbel2⟩; have HO2 := Lib.hid (Cells.of_own hown2); have HOWN1 := Lib.hid (own_keep HOWN.out (Mod.of_below hbel2) (fun _ _ h => h)); have HBEL2 := Lib.hid (HBEL.out.trans (hbel2.mono HBEL.out.size)); clear hown2 hbel2)
        | (at_builtin; refine wpList_app _ byteElem3 rfl (.tmp 11) (.tmp 17) rfl w.heap.size (.slice A1 k8 c1) k8 (byteCells (bitBytes (unpack (bs.take k)))) rfl HOWN1.out w2.heap.size A2 8 c2 (byteCells (bitBytes NB)) rfl (by rw [byteCells_length, bitBytes_length, HNL.out]) HO2.out (byteCells_one _) (by unfold maxLen; omega) (by omega) HBEL2.out.size ?_; intro A3 c3 w3 hA; have HA := Lib.hid hA; clear hA))
      go_roundg (gk - 1)
      case measure => omega
      case rel =>
        have e : 8 * (k + 1) = k8 + 8 := by rw [← H8.out]; omega
        refine ⟨k + 1, A3, c3, by omega, by go_num, by rw [e], ?_, HA.out.below HBEL2.out HBEL2.out.size (own_base HOWN1.out)⟩
        rw [e, HT.out, OwnB, bitBytes_append, byteCells_append]
        exact HA.out.own
    · obtain rfl : l = k := by omega
      have HK : Hid (bs.take l = bs) := List.take_of_length_le (by rw [HL.out]; exact Nat.le_refl _)
      go_wp2
      go_ret
      exact ⟨A1, c1, rfl, by rw [HK.out] at HOWN; exact HOWN.out, HBEL.out⟩

end Go.Proofs.Ytnobeipabfdkjaa
