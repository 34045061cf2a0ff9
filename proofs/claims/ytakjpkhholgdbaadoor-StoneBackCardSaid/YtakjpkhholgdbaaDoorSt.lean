/- Layer 17: tombstones are put. -/
import Derived.Test.YtakjpkhholgdbaaDoorRef15
import Derived.Test.YtakjpkhholgdbaaDoorKSum
namespace Go.Proofs.YtakjpkhholgdbaaDoor
open Go.RowKit CrcP FieldP

def tombBytes : List UInt8 := [84, 79, 77, 66]
/-- The bytes of a name's tombstone. -/
def tombB (l : List UInt8) : List UInt8 := sealed (tombBytes ++ putN l.length 1 ++ l)
theorem tombB_length (l : List UInt8) : (tombB l).length = 9 + l.length := by
  unfold tombB
  rw [sealed_length]
  simp [putN_length, tombBytes]
  omega
theorem rightB_len {l : List UInt8} (h : rightB l = true) : 1 ≤ l.length ∧ l.length ≤ 64 := by
  unfold rightB at h
  simp only [Bool.and_eq_true, decide_eq_true_eq] at h
  exact ⟨h.1.1.1, h.1.1.2⟩

set_option maxHeartbeats 1000000 in
theorem stPut_no (g : Nat) (s : ByteArray) (w : World) (hm : s.size ≤ maxLen) (h : rightB s.data.toList = false) : Calls Tryd.prog 9 #[.pointer (some ⟨g, 0, none⟩), .string s] w fun e w' => e = .returned (.tuple #[.slice none 0 0, .int .i64 6]) ∧ Below w.heap.size w w' := by
  have HR := Lib.hid (right_any s w hm)
  rw [h] at HR
  clear h
  go_enter Tryd.func9, Tryd.ntmps9
  go_wp2_with (go_at_call 20; refine HR.out.mono ?_; rintro e w1 ⟨rfl, hb⟩; have HB1 := Lib.hid hb; clear hb)
  go_ret2
  exact ⟨rfl, HB1.out⟩
set_option maxRecDepth 100000 in
set_option maxHeartbeats 1000000 in
theorem stPut_yes (g : Nat) (s : ByteArray) (w : World) (hm : s.size ≤ maxLen) (h : rightB s.data.toList = true) (hT : Table w g) : Calls Tryd.prog 9 #[.pointer (some ⟨g, 0, none⟩), .string s] w fun e w' =>
    ∃ A k, e = .returned (.tuple #[.slice A (9 + s.size) k, .int .i64 0]) ∧ OwnY w' w.heap.size (.slice A (9 + s.size) k) (9 + s.size) (tombB s.data.toList) ∧ Below w.heap.size w w' := by
  have hln : s.data.toList.length = s.size := by rw [Array.length_toList]; rfl
  have hs := rightB_len h
  have HR := Lib.hid (right_any s w hm)
  rw [h] at HR
  have HD : Hid (tombB s.data.toList = sealed (tombBytes ++ putN s.size 1 ++ s.data.toList)) := by show _ = _; unfold tombB; rw [hln]
  have HLN := Lib.hid hln
  rw [hln] at hs
  have HT : Hid (Table w g) := hT
  have htl := hT.lt
  have HM := Lib.hid hm
  clear h hT hln hm
  go_enter Tryd.func9, Tryd.ntmps9
  go_wp2_with fail
  refine HR.out.mono ?_
  rintro e w1 ⟨rfl, hb⟩
  have HB1 := Lib.hid hb
  have HT1 := Lib.hid (HT.out.below hb htl)
  clear hb
  have kc := fun (C : Array Value) (n k : Nat) => Joins.run_convert_bytes_const_at (P := Tryd.prog) w1 27 5 C n k w1.heap.size rfl Tryd.underlying27 Tryd.underlying5
  have HO1 := Lib.hid (own_of_const w1 (base := w.heap.size) (e := 5) (C := #[.int .u8 84, .int .u8 79, .int .u8 77, .int .u8 66]) (fz := (4, 5)) (n := 4) (xs := byteCells tombBytes) rfl rfl HB1.out.size (by unfold maxLen; omega) (by simp))
  have HB2 := Lib.hid (HB1.out.alloc HB1.out.size (.cells #[.int .u8 84, .int .u8 79, .int .u8 77, .int .u8 66] 5 (4, 5)))
  have HT2 := Lib.hid (HT1.out.alloc (.cells #[.int .u8 84, .int .u8 79, .int .u8 77, .int .u8 66] 5 (4, 5)))
  go_wp2_with fail
  clear kc
  generalize w1.alloc (.cells #[.int .u8 84, .int .u8 79, .int .u8 77, .int .u8 66] 5 (4, 5)) = w2 at *
  refine (put_any _ 4 tombBytes (s.size : Int) 1 w.heap.size w2 (by omega) (by omega) (by omega) (by omega) (by omega) HO1.out HB2.out.size).mono ?_
  rintro e w3 ⟨A3, c3, rfl, happ⟩
  have HO3 : Hid (OwnY w3 w.heap.size (.slice A3 5 c3) 5 (tombBytes ++ putN s.size 1)) := by have := happ.own; rwa [Int.toNat_natCast, show cnt 1 = 1 from rfl] at this
  have HB3 := Lib.hid (happ.below HB2.out HB2.out.size (fun k hk => (HO1.out.lt k hk).1))
  have HT3 := Lib.hid (HT.out.below HB3.out htl)
  rw [show (4 : Nat) + cnt 1 = 5 from rfl]
  clear happ HO1
  go_wp2_with (at_builtin; refine wpList_appT_string _ byteElem Tryd.underlying9 rfl (.tmp 17) (.tmp 18) rfl w.heap.size (.slice A3 5 c3) 5 (byteCells (tombBytes ++ putN s.size 1)) rfl HO3.out s rfl (by unfold maxLen; omega) (by omega) HB3.out.size ?_; intro A4 c4 w4 hA; have HA := Lib.hid hA; clear hA)
  have HO4 : Hid (OwnY w4 w.heap.size (.slice A4 (5 + s.size) c4) (5 + s.size) (tombBytes ++ putN s.size 1 ++ s.data.toList)) := by have := HA.out.own; rwa [← byteCells_append] at this
  have HB4 := Lib.hid (HA.out.below HB3.out HB3.out.size (fun k hk => (HO3.out.lt k hk).1))
  have HT4 := Lib.hid (HT.out.below HB4.out htl)
  refine (close_any g _ (5 + s.size) _ w.heap.size w4 (by omega) HO4.out HB4.out.size HT4.out).mono ?_
  rintro e w5 ⟨A5, c5, rfl, happ⟩
  have HO5 := Lib.hid happ.own
  have HB5 := Lib.hid (happ.below HB4.out HB4.out.size (fun k hk => (HO4.out.lt k hk).1))
  rw [← HD.out] at HO5
  rw [show 5 + s.size + 4 = 9 + s.size by omega] at HO5 ⊢
  clear happ
  go_wp2
  go_ret2
  exact ⟨A5, c5, rfl, HO5.out, HB5.out⟩

set_option maxRecDepth 100000 in
set_option maxHeartbeats 1000000 in
theorem stRefPut_any (s : ByteArray) (w : World) (hs : s.size ≤ 300) : Calls Tryd.prog 12 #[.string s] w fun e w' =>
    ∃ A k, e = .returned (.slice A (9 + s.size) k) ∧ OwnY w' w.heap.size (.slice A (9 + s.size) k) (9 + s.size) (tombB s.data.toList) ∧ Below w.heap.size w w' := by
  have hln : s.data.toList.length = s.size := by rw [Array.length_toList]; rfl
  have HD : Hid (tombB s.data.toList = sealed (tombBytes ++ putN s.size 1 ++ s.data.toList)) := by show _ = _; unfold tombB; rw [hln]
  have HLN := Lib.hid hln
  clear hln
  have kc := fun (C : Array Value) (n k : Nat) => Joins.run_convert_bytes_const_at (P := Tryd.prog) w 27 5 C n k w.heap.size rfl Tryd.underlying27 Tryd.underlying5
  have HO1 := Lib.hid (own_of_const w (base := w.heap.size) (e := 5) (C := #[.int .u8 84, .int .u8 79, .int .u8 77, .int .u8 66]) (fz := (4, 5)) (n := 4) (xs := byteCells tombBytes) rfl rfl (Nat.le_refl _) (by unfold maxLen; omega) (by simp))
  have HB1 := Lib.hid ((Below.refl w.heap.size w).alloc (Nat.le_refl _) (.cells #[.int .u8 84, .int .u8 79, .int .u8 77, .int .u8 66] 5 (4, 5)))
  obtain ⟨W1, hW1⟩ : ∃ W1, w.alloc (.cells #[.int .u8 84, .int .u8 79, .int .u8 77, .int .u8 66] 5 (4, 5)) = W1 := ⟨_, rfl⟩
  rw [hW1] at HO1 HB1
  have HW1 := Lib.hid hW1
  have HBS : Hid (byteCells tombBytes ++ [Value.int .u8 ((s.size : Int) % 256)] = byteCells (tombBytes ++ putN s.size 1)) := byteCells_snoc _ _
  go_enter Tryd.func12, Tryd.ntmps12
  have HO2 := Lib.hid (fun (w2 : World) (A2 : Option Addr) (c2 : Nat) (HA : AppT W1 w.heap.size 5 (.slice (some ⟨w.heap.size, 0, none⟩) 4 4) (4 + 1) (byteCells tombBytes ++ [Value.int .u8 ((s.size : Int) % 256)]) w2 (.slice A2 (4 + 1) c2)) => (⟨by (have h := HA.own; rw [HBS.out] at h; exact h), HA.below HB1.out HB1.out.size (fun k hk => (HO1.out.lt k hk).1)⟩ : OwnY w2 w.heap.size (.slice A2 5 c2) 5 (tombBytes ++ putN s.size 1) ∧ Below w.heap.size w w2))
  go_wp2_with (first
    | (at_builtin; refine wpList_appT1 W1 byteElem rfl (.tmp 4) (.tmp 8) rfl w.heap.size (.slice (some ⟨w.heap.size, 0, none⟩) 4 4) 4 (byteCells tombBytes) rfl HO1.out #[.int .u8 ((s.size : Int) % 256)] rfl rfl (by simp [Value.oneCell']) (by unfold maxLen; omega) (by omega) HB1.out.size ?_; intro A2 c2 w2 hA; have HA := Lib.hid (HO2.out w2 A2 c2 hA); clear hA)
    | (at_builtin; refine wpList_appT_string _ byteElem Tryd.underlying9 rfl (.tmp 9) (.tmp 10) rfl w.heap.size (.slice A2 5 c2) 5 (byteCells (tombBytes ++ putN s.size 1)) rfl HA.out.1 s rfl (by unfold maxLen; omega) (by omega) HA.out.2.size ?_; intro A3 c3 w3 hA; have HA3 := Lib.hid hA; clear hA))
  have HO3 : Hid (OwnY w3 w.heap.size (.slice A3 (5 + s.size) c3) (5 + s.size) (tombBytes ++ putN s.size 1 ++ s.data.toList)) := by have := HA3.out.own; rwa [← byteCells_append] at this
  have HB3 := Lib.hid (HA3.out.below HA.out.2 HA.out.2.size (fun k hk => (HA.out.1.lt k hk).1))
  refine (summed_any A3 (5 + s.size) c3 _ w3 (by have h := HO3.out.1; rwa [byteCells_length] at h) (by omega) HO3.out.cells).mono ?_
  rintro e w4 ⟨A4, c4, rfl, hown, hbel⟩
  have HO4 := Lib.hid (hown.le HB3.out.size)
  have HB4 := Lib.hid (HB3.out.trans (hbel.mono HB3.out.size))
  rw [← HD.out] at HO4
  rw [show 5 + s.size + 4 = 9 + s.size by omega] at HO4 ⊢
  clear hown hbel
  go_wp2
  go_ret
  exact ⟨A4, c4, rfl, HO4.out, HB4.out⟩
end Go.Proofs.YtakjpkhholgdbaaDoor
