/- Layer 17: tombstones are put. -/
import Derived.Test.YtaknladkodibaaaGreatDoorMgQ12836
import Derived.Test.YtaknladkodibaaaGreatDoorMgQ12824
import Derived.Test.YtaknladkodibaaaGreatDoorMgQ12833
import Derived.Lib.SmallJoins
import Derived.Test.YtaknladkodibaaaGreatDoorMgQ12817
import Derived.Test.YtaknladkodibaaaGreatDoorMgQ12818
namespace Go.Proofs.YtaknladkodibaaaGreatDoor
open Go.RowKit CrcP FieldP

def tombBytes : List UInt8 := [84, 79, 77, 66]
/-- The bytes of a name's tombstone. -/
def tombB (l : List UInt8) : List UInt8 := sealed (tombBytes ++ putN l.length 1 ++ l)
theorem rightB_len {l : List UInt8} (h : rightB l = true) : 1 ≤ l.length ∧ l.length ≤ 64 := by
  unfold rightB at h
  simp only [Bool.and_eq_true, decide_eq_true_eq] at h
  exact ⟨h.1.1.1, h.1.1.2⟩

set_option maxHeartbeats 1000000 in
theorem stPut_no (g : Nat) (s : ByteArray) (w : World) (hm : s.size ≤ maxLen) (h : rightB s.data.toList = false) : Calls Tryz.prog 21 #[.pointer (some ⟨g, 0, none⟩), .string s] w fun e w' => e = .returned (.tuple #[.slice none 0 0, .int .i64 6]) ∧ Below w.heap.size w w' := by
  have HR := Lib.hid (rightM_any s w hm)
  rw [h] at HR
  clear h
  go_enter Tryz.func21, Tryz.ntmps21
  go_wp2_with (go_at_call 30; refine HR.out.mono ?_; rintro e w1 ⟨rfl, hb⟩; have HB1 := Lib.hid hb; clear hb)
  go_ret2
  exact ⟨rfl, HB1.out⟩
set_option maxRecDepth 100000 in
set_option maxHeartbeats 1000000 in
theorem stPut_yes (g : Nat) (s : ByteArray) (w : World) (hm : s.size ≤ maxLen) (h : rightB s.data.toList = true) (hT : Table w g) : Calls Tryz.prog 21 #[.pointer (some ⟨g, 0, none⟩), .string s] w fun e w' =>
    ∃ A k, e = .returned (.tuple #[.slice A (9 + s.size) k, .int .i64 0]) ∧ OwnY w' w.heap.size (.slice A (9 + s.size) k) (9 + s.size) (tombB s.data.toList) ∧ Below w.heap.size w w' := by
  have hln : s.data.toList.length = s.size := by rw [Array.length_toList]; rfl
  have hs := rightB_len h
  have HR := Lib.hid (rightM_any s w hm)
  rw [h] at HR
  have HD : Hid (tombB s.data.toList = sealed (tombBytes ++ putN s.size 1 ++ s.data.toList)) := by show _ = _; unfold tombB; rw [hln]
  have HLN := Lib.hid hln
  rw [hln] at hs
  have HT : Hid (Table w g) := hT
  have htl := hT.lt
  have HM := Lib.hid hm
  clear h hT hln hm
  go_enter Tryz.func21, Tryz.ntmps21
  go_wp2_with fail
  refine HR.out.mono ?_
  rintro e w1 ⟨rfl, hb⟩
  have HB1 := Lib.hid hb
  have HT1 := Lib.hid (HT.out.below hb htl)
  clear hb
  have kc := fun (C : Array Value) (n k : Nat) => Joins.run_convert_bytes_const_at (P := Tryz.prog) w1 25 5 C n k w1.heap.size rfl Tryz.underlying25 Tryz.underlying5
  have HO1 := Lib.hid (own_of_const w1 (base := w.heap.size) (e := 5) (C := #[.int .u8 84, .int .u8 79, .int .u8 77, .int .u8 66]) (fz := (4, 5)) (n := 4) (xs := byteCells tombBytes) rfl rfl HB1.out.size (by unfold maxLen; omega) (by simp))
  have HB2 := Lib.hid (HB1.out.alloc HB1.out.size (.cells #[.int .u8 84, .int .u8 79, .int .u8 77, .int .u8 66] 5 (4, 5)))
  have HT2 := Lib.hid (HT1.out.alloc (.cells #[.int .u8 84, .int .u8 79, .int .u8 77, .int .u8 66] 5 (4, 5)))
  go_wp2_with fail
  clear kc
  generalize w1.alloc (.cells #[.int .u8 84, .int .u8 79, .int .u8 77, .int .u8 66] 5 (4, 5)) = w2 at *
  refine (put_any _ 4 tombBytes (s.size : Int) 1 w.heap.size w2 (by omega) (by omega) (by omega) (by omega) (by omega) HO1.out HB2.out.size).mono ?_
  rintro e w3 ⟨A3, c3, rfl, happ⟩
  have HO3 : Hid (OwnY w3 w.heap.size (.slice A3 5 c3) 5 (tombBytes ++ putN s.size 1)) := by have := happ.own; rwa [Int.toNat_natCast, show cnt 1 = 1 from rfl] at this
  have HB3 := Lib.hid (happ.below HB2.out HB2.out.size (fun k hk => (HO1.out.lt k hk).1))
  have HT3 := Lib.hid (HT.out.below HB3.out htl)
  rw [show (4 : Nat) + cnt 1 = 5 from rfl]
  clear happ HO1
  go_wp2_with (at_builtin; refine wpList_appT_string _ byteElem Tryz.underlying9 rfl (.tmp 17) (.tmp 18) rfl w.heap.size (.slice A3 5 c3) 5 (byteCells (tombBytes ++ putN s.size 1)) rfl HO3.out s rfl (by unfold maxLen; omega) (by omega) HB3.out.size ?_; intro A4 c4 w4 hA; have HA := Lib.hid hA; clear hA)
  have HO4 : Hid (OwnY w4 w.heap.size (.slice A4 (5 + s.size) c4) (5 + s.size) (tombBytes ++ putN s.size 1 ++ s.data.toList)) := by have := HA.out.own; rwa [← byteCells_append] at this
  have HB4 := Lib.hid (HA.out.below HB3.out HB3.out.size (fun k hk => (HO3.out.lt k hk).1))
  have HT4 := Lib.hid (HT.out.below HB4.out htl)
  refine (close_any g _ (5 + s.size) _ w.heap.size w4 (by omega) HO4.out HB4.out.size HT4.out).mono ?_
  rintro e w5 ⟨A5, c5, rfl, happ⟩
  have HO5 := Lib.hid happ.own
  have HB5 := Lib.hid (happ.below HB4.out HB4.out.size (fun k hk => (HO4.out.lt k hk).1))
  rw [← HD.out] at HO5
  rw [show 5 + s.size + 4 = 9 + s.size by omega] at HO5 ⊢
  clear happ
  go_wp2
  go_ret2
  exact ⟨A5, c5, rfl, HO5.out, HB5.out⟩

end Go.Proofs.YtaknladkodibaaaGreatDoor
/- Layer 16: heads are put. -/
namespace Go.Proofs.YtaknladkodibaaaGreatDoor
open Go.RowKit CrcP FieldP

/-- The mark and the first k numbers of a head. -/
def hdF (m n sz ar su : Nat) : Nat → List UInt8
  | 0 => headBytes
  | 1 => headBytes ++ putN m 1
  | 2 => headBytes ++ putN m 1 ++ putN n 1
  | 3 => headBytes ++ putN m 1 ++ putN n 1 ++ putN sz 4
  | 4 => headBytes ++ putN m 1 ++ putN n 1 ++ putN sz 4 ++ putN ar 4
  | _ => headBytes ++ putN m 1 ++ putN n 1 ++ putN sz 4 ++ putN ar 4 ++ putN su 4
def hdLen : Nat → Nat
  | 0 => 4
  | 1 => 5
  | 2 => 6
  | 3 => 10
  | 4 => 14
  | _ => 18
/-- The bytes of a head. -/
def headB (m : Nat) (l : List UInt8) (sz ar su : Nat) : List UInt8 := sealed (hdF m l.length sz ar su 5 ++ l)
theorem headB_length (m : Nat) (l : List UInt8) (sz ar su : Nat) : (headB m l sz ar su).length = 22 + l.length := by
  unfold headB
  rw [sealed_length]
  simp [hdF, putN_length, headBytes]
  omega
theorem hdB_name {m : Int} {l : List UInt8} {sz ar su : Int} (h : hdB m l sz ar su = true) : rightB l = true := by
  unfold hdB at h
  simp only [Bool.and_eq_true] at h
  exact h.1.1.1
theorem hdB_nums {m : Int} {l : List UInt8} {sz ar su : Int} (h : hdB m l sz ar su = true) : 0 ≤ m ∧ m ≤ 2 ∧ 0 ≤ sz ∧ sz ≤ 65536 ∧ 0 ≤ ar ∧ ar ≤ 65536 := by
  unfold hdB at h
  simp only [Bool.and_eq_true, decide_eq_true_eq] at h
  obtain ⟨⟨⟨_, h1⟩, h2⟩, h3⟩ := h
  split at h3
  · have : ar = sz := by simpa using h3
    omega
  · split at h3
    · simp only [Bool.and_eq_true, decide_eq_true_eq] at h3
      omega
    · split at h3
      · simp only [Bool.and_eq_true, beq_iff_eq] at h3
        omega
      · cases h3

theorem rightB_len' {l : List UInt8} (h : rightB l = true) : 1 ≤ l.length ∧ l.length ≤ 64 := by
  unfold rightB at h
  simp only [Bool.and_eq_true, decide_eq_true_eq] at h
  exact ⟨h.1.1.1, h.1.1.2⟩
set_option maxRecDepth 100000 in
set_option maxHeartbeats 2000000 in
theorem lcPut_yes (g : Nat) (m : Nat) (s : ByteArray) (sz ar su : Nat) (w : World) (hW : Wid w) (hsu : su < 4294967296) (h : hdB m s.data.toList sz ar su = true) (hT : Table w g) :
    Calls Tryz.prog 32 #[.pointer (some ⟨g, 0, none⟩), .agg #[.int .i64 (m : Int), .string s, .int .i64 (sz : Int), .int .i64 (ar : Int), .int .u32 (su : Int)]] w fun e w' =>
      ∃ A k, e = .returned (.tuple #[.slice A (22 + s.size) k, .int .i64 0]) ∧ OwnY w' w.heap.size (.slice A (22 + s.size) k) (22 + s.size) (headB m s.data.toList sz ar su) ∧ Below w.heap.size w w' := by
  have hln : s.data.toList.length = s.size := by rw [Array.length_toList]; rfl
  have hrn := rightB_len' (hdB_name h)
  rw [hln] at hrn
  obtain ⟨_, hm2, _, hs2, _, ha2⟩ := hdB_nums h
  have hm3 : (m : Int) < 4294967296 := by omega
  have hs3 : (sz : Int) < 4294967296 := by omega
  have ha3 : (ar : Int) < 4294967296 := by omega
  have HR := Lib.hid (fun W => lcRight_any m s sz ar su W (by unfold maxLen; omega))
  rw [h] at HR
  have HD : Hid (headB m s.data.toList sz ar su = sealed (hdF m s.size sz ar su 5 ++ s.data.toList)) := by show _ = _; unfold headB; rw [hln]
  have HLN := Lib.hid hln
  have HT0 := Lib.hid hT
  have HW := Lib.hid hW
  have hw0 := hW.1
  have htl := hT.lt
  have HB0 := Lib.hid ((Below.refl w.heap.size w).alloc (Nat.le_refl _) (.cells #[.int .i64 (m : Int), .string s, .int .i64 (sz : Int), .int .i64 (ar : Int), .int .u32 (su : Int)] 71))
  have HX0 : Hid (Box (w.alloc (.cells #[.int .i64 (m : Int), .string s, .int .i64 (sz : Int), .int .i64 (ar : Int), .int .u32 (su : Int)] 71)) w.heap.size #[.int .i64 (m : Int), .string s, .int .i64 (sz : Int), .int .i64 (ar : Int), .int .u32 (su : Int)] 71) := heap_alloc_new w _
  clear h hT hW hln hm2 hs2 ha2
  go_enter Tryz.func32, Tryz.ntmps32
  go_wp2_with fail
  refine (HR.out _).mono ?_
  rintro e w1 ⟨rfl, hb⟩
  have HX1 := Lib.hid (HX0.out.below hb HX0.out.lt)
  have HB1 := Lib.hid (HB0.out.trans (hb.mono HB0.out.size))
  clear hb
  have hz1 := HB1.out.size
  have hx1 := HX1.out.lt
  have kc := fun (C : Array Value) (n k : Nat) => Joins.run_convert_bytes_const_at (P := Tryz.prog) w1 25 5 C n k w1.heap.size rfl Tryz.underlying25 Tryz.underlying5
  have HO1 := Lib.hid (own_of_const w1 (base := w1.heap.size) (e := 5) (C := #[.int .u8 76, .int .u8 77, .int .u8 66, .int .u8 82]) (fz := (4, 5)) (n := 4) (xs := byteCells headBytes) rfl rfl (Nat.le_refl _) (by unfold maxLen; omega) (by simp))
  have HB2 := Lib.hid ((Below.refl w1.heap.size w1).alloc (Nat.le_refl _) (.cells #[.int .u8 76, .int .u8 77, .int .u8 66, .int .u8 82] 5 (4, 5)))
  obtain ⟨w2, hw2⟩ : ∃ w2, w1.alloc (.cells #[.int .u8 76, .int .u8 77, .int .u8 66, .int .u8 82] 5 (4, 5)) = w2 := ⟨_, rfl⟩
  rw [hw2] at HO1 HB2
  have HX2 := Lib.hid (HX1.out.below HB2.out hx1)
  have h0 : w2.cell? ⟨w.heap.size, 0, none⟩ = some (.int .i64 (m : Int)) := HX2.out.cell 0
  have h1 : w2.cell? ⟨w.heap.size, 1, none⟩ = some (.string s) := HX2.out.cell 1
  have h2 : w2.cell? ⟨w.heap.size, 2, none⟩ = some (.int .i64 (sz : Int)) := HX2.out.cell 2
  have h3 : w2.cell? ⟨w.heap.size, 3, none⟩ = some (.int .i64 (ar : Int)) := HX2.out.cell 3
  have h4 : w2.cell? ⟨w.heap.size, 4, none⟩ = some (.int .u32 (su : Int)) := HX2.out.cell 4
  go_wp2
  clear h0 h1 h2 h3 h4 kc
  go_loopw [6, 7, 8, 30] (fun vb _ _ i wr => ∃ k : Nat, k ≤ 5 ∧ i = .int .i64 k ∧ OwnY wr w1.heap.size vb (hdLen k) (hdF m s.size sz ar su k) ∧ Below w1.heap.size w1 wr) (fun _ _ _ i _ => 5 - (intOf i).toNat)
  case atStart => exact ⟨0, by omega, rfl, HO1.out, HB2.out⟩
  case round =>
    obtain ⟨k, hk, rfl, hown, hbel⟩ := hrel
    have HOWN := Lib.hid hown
    have HBEL := Lib.hid hbel
    have HWR := Lib.hid (HB1.out.trans (hbel.mono hz1))
    clear hown hbel
    obtain ⟨Ak, ck, rfl⟩ := HOWN.out.form
    by_cases hk3 : k < 5
    · have hk4 : k = 0 ∨ k = 1 ∨ k = 2 ∨ k = 3 ∨ k = 4 := by omega
      rcases hk4 with rfl | rfl | rfl | rfl | rfl
      · have hix : ∀ w, (Instr.index 121 (.agg #[.int .u32 (m : Int), .int .u32 (s.size : Int), .int .u32 (sz : Int), .int .u32 (ar : Int), .int .u32 (su : Int)]) (.int .i64 0)).run Tryz.prog w = .ok (.int .u32 (m : Int)) w := fun _ => by kernel_rfl
        have hwd := (HWR.out.cell (p := ⟨0, 0, none⟩) hw0).trans (HW.out.2 0 (by omega))
        rw [show ((wid 0 : Nat) : Int) = 1 from rfl] at hwd
        have HST := Lib.hid (put_any (.slice Ak 4 ck) 4 _ (m : Int) 1 w1.heap.size _ (by omega) (by omega) (by omega) (by omega) (by omega) HOWN.out HBEL.out.size)
        rw [Int.toNat_natCast, show cnt 1 = 1 from rfl] at HST
        rw [show hdLen 0 = 4 from rfl]
        go_wp2_with (go_at_call 57; refine HST.out.mono ?_; rintro e w2 ⟨A2, c2, rfl, happ⟩; have HO2 := Lib.hid happ.own; have HB2' := Lib.hid (happ.below HBEL.out HBEL.out.size (fun k hk => (HOWN.out.lt k hk).1)); clear happ hwd)
        exact ⟨⟨1, by omega, rfl, HO2.out, HB2'.out⟩, by simp [intOf]⟩
      · have hix : ∀ w, (Instr.index 121 (.agg #[.int .u32 (m : Int), .int .u32 (s.size : Int), .int .u32 (sz : Int), .int .u32 (ar : Int), .int .u32 (su : Int)]) (.int .i64 1)).run Tryz.prog w = .ok (.int .u32 (s.size : Int)) w := fun _ => by kernel_rfl
        have hwd := (HWR.out.cell (p := ⟨0, 1, none⟩) hw0).trans (HW.out.2 1 (by omega))
        rw [show ((wid 1 : Nat) : Int) = 1 from rfl] at hwd
        have HST := Lib.hid (put_any (.slice Ak 5 ck) 5 _ (s.size : Int) 1 w1.heap.size _ (by omega) (by omega) (by omega) (by omega) (by omega) HOWN.out HBEL.out.size)
        rw [Int.toNat_natCast, show cnt 1 = 1 from rfl] at HST
        rw [show hdLen 1 = 5 from rfl]
        go_wp2_with (go_at_call 57; refine HST.out.mono ?_; rintro e w2 ⟨A2, c2, rfl, happ⟩; have HO2 := Lib.hid happ.own; have HB2' := Lib.hid (happ.below HBEL.out HBEL.out.size (fun k hk => (HOWN.out.lt k hk).1)); clear happ hwd)
        exact ⟨⟨2, by omega, rfl, HO2.out, HB2'.out⟩, by simp [intOf]⟩
      · have hix : ∀ w, (Instr.index 121 (.agg #[.int .u32 (m : Int), .int .u32 (s.size : Int), .int .u32 (sz : Int), .int .u32 (ar : Int), .int .u32 (su : Int)]) (.int .i64 2)).run Tryz.prog w = .ok (.int .u32 (sz : Int)) w := fun _ => by kernel_rfl
        have hwd := (HWR.out.cell (p := ⟨0, 2, none⟩) hw0).trans (HW.out.2 2 (by omega))
        rw [show ((wid 2 : Nat) : Int) = 4 from rfl] at hwd
        have HST := Lib.hid (put_any (.slice Ak 6 ck) 6 _ (sz : Int) 4 w1.heap.size _ (by omega) (by omega) (by omega) (by omega) (by omega) HOWN.out HBEL.out.size)
        rw [Int.toNat_natCast, show cnt 4 = 4 from rfl] at HST
        rw [show hdLen 2 = 6 from rfl]
        go_wp2_with (go_at_call 57; refine HST.out.mono ?_; rintro e w2 ⟨A2, c2, rfl, happ⟩; have HO2 := Lib.hid happ.own; have HB2' := Lib.hid (happ.below HBEL.out HBEL.out.size (fun k hk => (HOWN.out.lt k hk).1)); clear happ hwd)
        exact ⟨⟨3, by omega, rfl, HO2.out, HB2'.out⟩, by simp [intOf]⟩
      · have hix : ∀ w, (Instr.index 121 (.agg #[.int .u32 (m : Int), .int .u32 (s.size : Int), .int .u32 (sz : Int), .int .u32 (ar : Int), .int .u32 (su : Int)]) (.int .i64 3)).run Tryz.prog w = .ok (.int .u32 (ar : Int)) w := fun _ => by kernel_rfl
        have hwd := (HWR.out.cell (p := ⟨0, 3, none⟩) hw0).trans (HW.out.2 3 (by omega))
        rw [show ((wid 3 : Nat) : Int) = 4 from rfl] at hwd
        have HST := Lib.hid (put_any (.slice Ak 10 ck) 10 _ (ar : Int) 4 w1.heap.size _ (by omega) (by omega) (by omega) (by omega) (by omega) HOWN.out HBEL.out.size)
        rw [Int.toNat_natCast, show cnt 4 = 4 from rfl] at HST
        rw [show hdLen 3 = 10 from rfl]
        go_wp2_with (go_at_call 57; refine HST.out.mono ?_; rintro e w2 ⟨A2, c2, rfl, happ⟩; have HO2 := Lib.hid happ.own; have HB2' := Lib.hid (happ.below HBEL.out HBEL.out.size (fun k hk => (HOWN.out.lt k hk).1)); clear happ hwd)
        exact ⟨⟨4, by omega, rfl, HO2.out, HB2'.out⟩, by simp [intOf]⟩
      · have hix : ∀ w, (Instr.index 121 (.agg #[.int .u32 (m : Int), .int .u32 (s.size : Int), .int .u32 (sz : Int), .int .u32 (ar : Int), .int .u32 (su : Int)]) (.int .i64 4)).run Tryz.prog w = .ok (.int .u32 (su : Int)) w := fun _ => by kernel_rfl
        have hwd := (HWR.out.cell (p := ⟨0, 4, none⟩) hw0).trans (HW.out.2 4 (by omega))
        rw [show ((wid 4 : Nat) : Int) = 4 from rfl] at hwd
        have HST := Lib.hid (put_any (.slice Ak 14 ck) 14 _ (su : Int) 4 w1.heap.size _ (by omega) (by omega) (by omega) (by omega) (by omega) HOWN.out HBEL.out.size)
        rw [Int.toNat_natCast, show cnt 4 = 4 from rfl] at HST
        rw [show hdLen 4 = 14 from rfl]
        go_wp2_with (go_at_call 57; refine HST.out.mono ?_; rintro e w2 ⟨A2, c2, rfl, happ⟩; have HO2 := Lib.hid happ.own; have HB2' := Lib.hid (happ.below HBEL.out HBEL.out.size (fun k hk => (HOWN.out.lt k hk).1)); clear happ hwd)
        exact ⟨⟨5, by omega, rfl, HO2.out, HB2'.out⟩, by simp [intOf]⟩
    · obtain rfl : k = 5 := by omega
      have HXR := Lib.hid (HX1.out.below HBEL.out hx1)
      have h1 : _ = some (Value.string s) := HXR.out.cell 1
      rw [show hdLen 5 = 18 from rfl] at HOWN ⊢
      go_wp2_with (at_builtin; refine wpList_appT_string _ byteElem Tryz.underlying9 rfl (.tmp 42) (.tmp 44) rfl w1.heap.size (.slice Ak 18 ck) 18 (byteCells (hdF m s.size sz ar su 5)) rfl HOWN.out s rfl (by unfold maxLen; omega) (by omega) HBEL.out.size ?_; intro A4 c4 w4 hA; have HA := Lib.hid hA; clear hA)
      have HO4 : Hid (OwnY w4 w1.heap.size (.slice A4 (18 + s.size) c4) (18 + s.size) (hdF m s.size sz ar su 5 ++ s.data.toList)) := by have := HA.out.own; rwa [← byteCells_append] at this
      have HB4 := Lib.hid (HA.out.below HBEL.out HBEL.out.size (fun k hk => (HOWN.out.lt k hk).1))
      have HT4 := Lib.hid (HT0.out.below (HB1.out.trans (HB4.out.mono hz1)) htl)
      refine (close_any g _ (18 + s.size) _ w1.heap.size w4 (by omega) HO4.out HB4.out.size HT4.out).mono ?_
      rintro e w5 ⟨A5, c5, rfl, happ⟩
      have HO5 := Lib.hid (happ.own.le hz1)
      have HB5 := Lib.hid (happ.below HB4.out HB4.out.size (fun k hk => (HO4.out.lt k hk).1))
      rw [← HD.out] at HO5
      rw [show 18 + s.size + 4 = 22 + s.size by omega] at HO5 ⊢
      clear happ
      go_wp2
      go_ret2
      exact ⟨A5, c5, rfl, HO5.out, HB1.out.trans (HB5.out.mono hz1)⟩
end Go.Proofs.YtaknladkodibaaaGreatDoor
/- Layer 16, plainly: what was put is taken. -/
namespace Go.Proofs.YtaknladkodibaaaGreatDoor
open Go.RowKit CrcP FieldP

end Go.Proofs.YtaknladkodibaaaGreatDoor
/- Layer 16: the reference's Put. -/
namespace Go.Proofs.YtaknladkodibaaaGreatDoor
open Go.RowKit CrcP FieldP
attribute [local go_sem ↓] Go.wp_at_zero Go.wp_at_succ

end Go.Proofs.YtaknladkodibaaaGreatDoor
/- Layer 17: tombstones are taken. -/
namespace Go.Proofs.YtaknladkodibaaaGreatDoor
open Go.RowKit CrcP FieldP

end Go.Proofs.YtaknladkodibaaaGreatDoor
/- Layer 17, plainly: what was put is taken. -/
namespace Go.Proofs.YtaknladkodibaaaGreatDoor
open Go.RowKit CrcP FieldP

end Go.Proofs.YtaknladkodibaaaGreatDoor
/- Layer 17, plainly: what any bytes hold. -/
namespace Go.Proofs.YtaknladkodibaaaGreatDoor
open Go.RowKit CrcP FieldP

end Go.Proofs.YtaknladkodibaaaGreatDoor
/- Layer 17: the reference's Take. -/
namespace Go.Proofs.YtaknladkodibaaaGreatDoor
open Go.RowKit CrcP FieldP
attribute [local go_sem ↓] Go.wp_at_zero Go.wp_at_succ

end Go.Proofs.YtaknladkodibaaaGreatDoor
/- Layer 17: the reference's Take, where all is there. -/
namespace Go.Proofs.YtaknladkodibaaaGreatDoor
open Go.RowKit CrcP FieldP
attribute [local go_sem ↓] Go.wp_at_zero Go.wp_at_succ

end Go.Proofs.YtaknladkodibaaaGreatDoor
/- Layer 17: what stands at a place, of any bytes. -/
namespace Go.Proofs.YtaknladkodibaaaGreatDoor
open Go.RowKit CrcP FieldP

end Go.Proofs.YtaknladkodibaaaGreatDoor
