/- The reference's bytes and their sum. -/
import Derived.Test.YtaknladkodibaaaGreatDoorMgQ35317
import Derived.Test.YtaknladkodibaaaGreatDoorMgQ35318
import Derived.Lib.SmallJoins
namespace Go.Proofs.YtaknladkodibaaaGreatDoor
open Go.RowKit CrcP FieldP

set_option maxHeartbeats 1000000 in
theorem summed_any (A : Option Addr) (l c : Nat) (bs : List UInt8) (w : World) (hl : bs.length = l) (hm : l ≤ 1099511627776) (hb : Bytes w w.heap.size A bs) :
    Calls Tryz.prog 77 #[.slice A l c] w fun e w' => ∃ A' c', e = .returned (.slice A' (l + 4) c') ∧ OwnY w' w.heap.size (.slice A' (l + 4) c') (l + 4) (sealed bs) ∧ Below w.heap.size w w' := by
  have HL := Lib.hid hl
  have HB : Hid (Bytes w w.heap.size A bs) := hb
  clear hl hb
  have HCL : Hid ((byteCells bs).length = l) := by show _ = _; rw [byteCells_length, HL.out]
  have HB1 := Lib.hid (((Below.refl w.heap.size w).alloc (Nat.le_refl _) (.cells #[] 5)))
  have HO1 := Lib.hid (OwnT.of (own_empty w 5 (base := w.heap.size) (Nat.le_refl _)))
  have HBS1 := Lib.hid (Cells.alloc HB.out (Nat.le_refl _) (.cells #[] 5))
  have hlt := sumN_lt bs
  have HD : Hid (sealed bs = bs ++ putN (sumN bs) 4) := rfl
  go_enter Tryz.func77, Tryz.ntmps77
  go_wp2_with (at_builtin; refine wpList_appT _ byteElem rfl (.tmp 3) (.tmp 4) rfl w.heap.size (.slice (some ⟨w.heap.size, 0, none⟩) 0 0) 0 [] rfl HO1.out w.heap.size A l c (byteCells bs) rfl HCL.out HBS1.out (byteCells_one _) (by unfold maxLen; omega) (by omega) HB1.out.size ?_; intro A1 c1 w1 hA; have HA := Lib.hid hA; clear hA)
  have HBEL := Lib.hid (HA.out.below HB1.out HB1.out.size (fun k hk => (HO1.out.lt k hk).1))
  have HS := Lib.hid (refSum_any A l c bs w.heap.size w1 HL.out (by omega) (HB.out.below HBEL.out (Nat.le_refl _)))
  have HP := Lib.hid (refPut_any (sumN bs : Nat) 4 w1 (by omega) (by omega) (by omega) (by omega))
  rw [Int.toNat_natCast, cnt4] at HP
  generalize sumN bs = s at *
  go_wp2_with fail
  refine HS.out.mono ?_
  rintro e w' ⟨rfl, rfl⟩
  go_wp2_with fail
  refine HP.out.mono ?_
  rintro e w2 ⟨A2, c2, rfl, hown, hbel⟩
  have HO2 := Lib.hid (OwnT.of hown)
  have HM2 := Lib.hid hbel
  clear hown hbel
  have HO3 := Lib.hid (HA.out.own.keep (Mod.of_below HM2.out) (fun _ _ h => h))
  have HB3 := Lib.hid (HBEL.out.trans (HM2.out.mono HBEL.out.size))
  have HC2 := Lib.hid HO2.out.cells
  have HPL : Hid ((byteCells (putN s 4)).length = 4) := by show _ = _; rw [byteCells_length, putN_length]
  simp only [Nat.zero_add, List.nil_append] at HO3
  go_wp2_with (at_builtin; refine wpList_appT _ byteElem rfl (.tmp 5) (.tmp 8) rfl w.heap.size (.slice A1 (0 + l) c1) l (byteCells bs) (by rw [Nat.zero_add]; rfl) (by rw [Nat.zero_add]; exact HO3.out) w2.heap.size A2 4 c2 (byteCells (putN s 4)) rfl HPL.out HC2.out (byteCells_one _) (by unfold maxLen; omega) (by omega) HB3.out.size ?_; intro A3 c3 w3 hA; have HA3 := Lib.hid hA; clear hA)
  go_ret
  refine ⟨A3, c3, rfl, ?_, HA3.out.below HB3.out HB3.out.size (fun k hk => (HO3.out.lt k (by rw [Nat.zero_add] at hk; exact hk)).1)⟩
  rw [HD.out]
  have := HA3.out.own
  rwa [← byteCells_append] at this
end Go.Proofs.YtaknladkodibaaaGreatDoor
/- Layer 18: descriptors: whether one may be, its bytes; the reference's. -/
namespace Go.Proofs.YtaknladkodibaaaGreatDoor
open Go.RowKit CrcP FieldP

/-- May a foot be? -/
def dcB (c l : Int) : Bool := decide (0 ≤ c) && decide (c ≤ 65536) && decide (2 ≤ l) && decide (l ≤ 262144)
theorem dcB_yes {c l : Int} (h : dcB c l = true) : 0 ≤ c ∧ c ≤ 65536 ∧ 2 ≤ l ∧ l ≤ 262144 := by
  simp only [dcB, Bool.and_eq_true, decide_eq_true_eq] at h
  omega

theorem dcB_ways (c l : Int) : (dcB c l = false ∧ c < 0) ∨ (dcB c l = false ∧ 0 ≤ c ∧ 65536 < c) ∨ (dcB c l = false ∧ 0 ≤ c ∧ c ≤ 65536 ∧ l < 2) ∨ (dcB c l = false ∧ 0 ≤ c ∧ c ≤ 65536 ∧ 2 ≤ l ∧ 262144 < l) ∨ (dcB c l = true ∧ 0 ≤ c ∧ c ≤ 65536 ∧ 2 ≤ l ∧ l ≤ 262144) := by
  simp only [dcB, Bool.and_eq_false_iff, Bool.and_eq_true, decide_eq_true_eq, decide_eq_false_iff_not]
  omega

set_option maxHeartbeats 1000000 in
theorem dcRight_any (c l s : Int) (w : World) : Calls Tryz.prog 81 #[.agg #[.int .i64 c, .int .i64 l, .int .u32 s]] w fun e w' => e = .returned (.bool (dcB c l)) ∧ w.alloc (.cells #[.int .i64 c, .int .i64 l, .int .u32 s] 78) = w' := by
  rcases dcB_ways c l with ⟨h, h1⟩ | ⟨h, h1, h2⟩ | ⟨h, h1, h2, h3⟩ | ⟨h, h1, h2, h3, h4⟩ | ⟨h, h1, h2, h3, h4⟩
  all_goals
    rw [h]
    clear h
    go_enter Tryz.func81, Tryz.ntmps81
    go_wp2
    go_ret
    refine ⟨?_, rfl⟩
    first
      | rfl
      | (show Ending.returned (.bool (decide _)) = _; congr 2; simp; omega)
set_option maxHeartbeats 1000000 in
theorem dcRefRight_any (c l s : Int) (w : World) : Calls Tryz.prog 84 #[.agg #[.int .i64 c, .int .i64 l, .int .u32 s]] w fun e w' => e = .returned (.bool (dcB c l)) ∧ w.alloc (.cells #[.int .i64 c, .int .i64 l, .int .u32 s] 83) = w' := by
  rcases dcB_ways c l with ⟨h, h1⟩ | ⟨h, h1, h2⟩ | ⟨h, h1, h2, h3⟩ | ⟨h, h1, h2, h3, h4⟩ | ⟨h, h1, h2, h3, h4⟩
  all_goals
    rw [h]
    clear h
    go_enter Tryz.func84, Tryz.ntmps84
    go_wp2
    go_ret
    refine ⟨?_, rfl⟩
    first
      | rfl
      | (show Ending.returned (.bool (decide _)) = _; congr 2; simp; omega)

/-- "DESC". -/
def descMark : ByteArray := ⟨#[68, 69, 83, 67]⟩
def descBytes : List UInt8 := [68, 69, 83, 67]
/-- The bytes of a foot. -/
def descB (c l s : Int) : List UInt8 := threeB descBytes c.toNat l.toNat s.toNat

set_option maxHeartbeats 1000000 in
theorem dcPut_yes (g : Nat) (c l s : Int) (w : World) (h : dcB c l = true) (s0 : 0 ≤ s) (s1 : s < 4294967296) (hT : Table w g) : Calls Tryz.prog 40 #[.pointer (some ⟨g, 0, none⟩), .agg #[.int .i64 c, .int .i64 l, .int .u32 s]] w fun e w' =>
    ∃ A k, e = .returned (.tuple #[.slice A 20 k, .int .i64 0]) ∧ OwnY w' w.heap.size (.slice A 20 k) 20 (descB c l s) ∧ Below w.heap.size w w' := by
  obtain ⟨hc0, hc1, hl0, hl1⟩ := dcB_yes h
  have HR := Lib.hid (fun W => dcRight_any c l s W)
  rw [h] at HR
  obtain ⟨c, rfl⟩ := Int.eq_ofNat_of_zero_le hc0
  obtain ⟨l, rfl⟩ := Int.eq_ofNat_of_zero_le (show 0 ≤ l by omega)
  obtain ⟨s, rfl⟩ := Int.eq_ofNat_of_zero_le s0
  have HT := Lib.hid ((hT.alloc (.cells #[.int .i64 (c : Int), .int .i64 (l : Int), .int .u32 (s : Int)] 78)).alloc (.cells #[.int .i64 (c : Int), .int .i64 (l : Int), .int .u32 (s : Int)] 78))
  have HB := Lib.hid (((Below.refl w.heap.size w).alloc (Nat.le_refl _) (.cells #[.int .i64 (c : Int), .int .i64 (l : Int), .int .u32 (s : Int)] 78)).alloc (by simp) (.cells #[.int .i64 (c : Int), .int .i64 (l : Int), .int .u32 (s : Int)] 78))
  clear h hT
  go_enter Tryz.func40, Tryz.ntmps40
  go_wp2_with (first | (go_at_call 81; refine (HR.out _).mono ?_; rintro e w' ⟨rfl, rfl⟩) | (go_at_call 82; refine (putThree_any g descMark c l s _ (by decide) (by omega) (by omega) (by omega) HT.out).mono ?_; rintro e w2 ⟨A2, c2, rfl, hown, hbel⟩; have HO2 := Lib.hid hown; have HB2 := Lib.hid hbel; clear hown hbel))
  go_ret2
  exact ⟨A2, c2, rfl, HO2.out.le (by simp; omega), HB.out.trans (HB2.out.mono (by simp; omega))⟩

end Go.Proofs.YtaknladkodibaaaGreatDoor
/- Layer 18: a descriptor is taken. -/
namespace Go.Proofs.YtaknladkodibaaaGreatDoor
open Go.RowKit CrcP FieldP
attribute [local go_sem ↓] Go.wp_at_zero Go.wp_at_succ

end Go.Proofs.YtaknladkodibaaaGreatDoor
/- Layer 18: the reference's Take of a descriptor. -/
namespace Go.Proofs.YtaknladkodibaaaGreatDoor
open Go.RowKit CrcP FieldP
attribute [local go_sem ↓] Go.wp_at_zero Go.wp_at_succ

theorem bytes_partD {w : World} {B b o : Nat} {bs : List UInt8} (hbB : b < B) (h : ∀ j u, (byteCells bs)[j]? = some u → w.cell? ⟨b, o + j, none⟩ = some u) (p n : Nat) : Bytes w B (some ⟨b, o + p, none⟩) ((bs.drop p).take n) := fun _ => ⟨b, o + p, rfl, hbB, fun j u hu => by
  have h2 : (byteCells bs)[p + j]? = some u := by
    unfold byteCells at hu ⊢
    rw [List.getElem?_map, List.getElem?_take] at hu
    split at hu
    · rw [List.getElem?_drop] at hu
      rw [List.getElem?_map, hu]
    · simp at hu
  have := h (p + j) u h2
  rw [← Nat.add_assoc] at this
  exact this⟩
end Go.Proofs.YtaknladkodibaaaGreatDoor
/- Layer 18: the reference's Take of a descriptor: whose sum is right. -/
namespace Go.Proofs.YtaknladkodibaaaGreatDoor
open Go.RowKit CrcP FieldP
attribute [local go_sem ↓] Go.wp_at_zero Go.wp_at_succ

end Go.Proofs.YtaknladkodibaaaGreatDoor
/- Layer 18: the reference's Put. -/
namespace Go.Proofs.YtaknladkodibaaaGreatDoor
open Go.RowKit CrcP FieldP

set_option maxRecDepth 100000 in
set_option maxHeartbeats 1000000 in
theorem dcRefPut_any (c l s : Int) (w : World) (h : dcB c l = true) (s0 : 0 ≤ s) (s1 : s < 4294967296) : Calls Tryz.prog 43 #[.agg #[.int .i64 c, .int .i64 l, .int .u32 s]] w fun e w' =>
    ∃ A k, e = .returned (.slice A 20 k) ∧ OwnY w' w.heap.size (.slice A 20 k) 20 (descB c l s) ∧ Below w.heap.size w w' := by
  obtain ⟨hc0, hc1, hl0, hl1⟩ := dcB_yes h
  obtain ⟨c, rfl⟩ := Int.eq_ofNat_of_zero_le hc0
  obtain ⟨l, rfl⟩ := Int.eq_ofNat_of_zero_le (show 0 ≤ l by omega)
  obtain ⟨s, rfl⟩ := Int.eq_ofNat_of_zero_le s0
  obtain ⟨W0, hW0⟩ : ∃ W0, w.alloc (.cells #[.int .i64 (c : Int), .int .i64 (l : Int), .int .u32 (s : Int)] 83) = W0 := ⟨_, rfl⟩
  have HZ : Hid (W0.heap.size = w.heap.size + 1) := by show _ = _; rw [← hW0]; simp
  have HF : Hid (Below w.heap.size w W0) := by rw [← hW0]; exact (Below.refl w.heap.size w).alloc (Nat.le_refl _) _
  have HX : Hid (Box W0 w.heap.size #[.int .i64 (c : Int), .int .i64 (l : Int), .int .u32 (s : Int)] 83) := by rw [← hW0]; exact heap_alloc_new w _
  have hlt : w.heap.size < W0.heap.size := by rw [HZ.out]; omega
  have H0 : Hid (W0.cell? ⟨w.heap.size, 0, none⟩ = some (.int .i64 (c : Int))) := HX.out.cell 0
  have H1 : Hid (W0.cell? ⟨w.heap.size, 1, none⟩ = some (.int .i64 (l : Int))) := HX.out.cell 1
  have H2 : Hid (W0.cell? ⟨w.heap.size, 2, none⟩ = some (.int .u32 (s : Int))) := HX.out.cell 2
  have kc := fun (C : Array Value) (n k : Nat) => Joins.run_convert_bytes_const_at (P := Tryz.prog) (w.alloc (.cells #[.int .i64 (c : Int), .int .i64 (l : Int), .int .u32 (s : Int)] 83)) 25 5 C n k (w.heap.size + 1) (by simp) Tryz.underlying25 Tryz.underlying5
  have HO1 := Lib.hid (own_of_const W0 (base := W0.heap.size) (e := 5) (C := #[.int .u8 68, .int .u8 69, .int .u8 83, .int .u8 67]) (fz := (4, 5)) (n := 4) (xs := byteCells descBytes) rfl rfl (Nat.le_refl _) (by unfold maxLen; omega) (by simp))
  rw [HZ.out] at HO1
  have HB1 := Lib.hid ((Below.refl W0.heap.size W0).alloc (Nat.le_refl _) (.cells #[.int .u8 68, .int .u8 69, .int .u8 83, .int .u8 67] 5 (4, 5)))
  rw [← HZ.out] at HO1
  have HW0 := Lib.hid hW0
  clear h hW0
  go_enter Tryz.func43, Tryz.ntmps43
  go_wp2_with fail
  rw [HW0.out]
  clear kc
  rw [← HZ.out]
  obtain ⟨A1, c1, hA1⟩ : ∃ A1 c1, Value.slice (some ⟨W0.heap.size, 0, none⟩) 4 4 = .slice A1 4 c1 := ⟨_, _, rfl⟩
  rw [hA1] at HO1 ⊢
  clear hA1
  obtain ⟨bs1, HE1⟩ : ∃ bs, Hid (bs = descBytes) := ⟨_, rfl⟩
  rw [← HE1.out] at HO1
  generalize W0.alloc (.cells #[.int .u8 68, .int .u8 69, .int .u8 83, .int .u8 67] 5 (4, 5)) = W1 at *
  have HP1 := Lib.hid (refPut_any ((c : Nat) : Int) 4 W1 (by omega) (by omega) (by omega) (by omega))
  rw [Int.toNat_natCast, cnt4] at HP1
  go_wp2_with fail
  refine HP1.out.mono ?_
  rintro e V1 ⟨P1, q1, rfl, hown, hbel⟩
  have HN1 := Lib.hid (OwnT.of hown)
  have HM1 := Lib.hid hbel
  clear hown hbel HP1
  have HK1 := Lib.hid (HO1.out.keep (Mod.of_below HM1.out) (fun _ _ h => h))
  have HC1 := Lib.hid (HB1.out.trans (HM1.out.mono HB1.out.size))
  have HL1 : Hid ((byteCells (putN c 4)).length = 4) := by show _ = _; rw [byteCells_length, putN_length]
  go_wp2_with (at_builtin; refine wpList_appT _ byteElem rfl (.tmp 5) (.tmp 9) rfl W0.heap.size (.slice A1 4 c1) (4) (byteCells bs1) rfl HK1.out V1.heap.size P1 4 q1 (byteCells (putN c 4)) rfl HL1.out HN1.out.cells (byteCells_one _) (by unfold maxLen; omega) (by omega) HC1.out.size ?_; intro A2 c2 W2 hA; have HA1 := Lib.hid hA; clear hA; have HB2 := Lib.hid (HA1.out.below HC1.out HC1.out.size (fun k hk => (HK1.out.lt k hk).1)); have hcell2 := (HB2.out.cell (p := ⟨w.heap.size, 1, none⟩) (by simp; try omega)).trans H1.out)
  obtain ⟨bs2, HE2⟩ : ∃ bs, Hid (bs = bs1 ++ putN c 4) := ⟨_, rfl⟩
  have HO2 : Hid (OwnY W2 W0.heap.size (.slice A2 (4 + 4) c2) (4 + 4) bs2) := by have h := HA1.out.own; rw [← byteCells_append, ← HE2.out] at h; exact h
  clear HA1 HK1 HC1 HN1 HM1 HL1 HO1 HB1
  simp only [Nat.reduceAdd] at HO2 ⊢
  have HP2 := Lib.hid (refPut_any ((l : Nat) : Int) 4 W2 (by omega) (by omega) (by omega) (by omega))
  rw [Int.toNat_natCast, cnt4] at HP2
  go_wp2_with fail
  refine HP2.out.mono ?_
  rintro e V2 ⟨P2, q2, rfl, hown, hbel⟩
  have HN2 := Lib.hid (OwnT.of hown)
  have HM2 := Lib.hid hbel
  clear hown hbel HP2
  have HK2 := Lib.hid (HO2.out.keep (Mod.of_below HM2.out) (fun _ _ h => h))
  have HC2 := Lib.hid (HB2.out.trans (HM2.out.mono HB2.out.size))
  have HL2 : Hid ((byteCells (putN l 4)).length = 4) := by show _ = _; rw [byteCells_length, putN_length]
  go_wp2_with (at_builtin; refine wpList_appT _ byteElem rfl (.tmp 11) (.tmp 15) rfl W0.heap.size (.slice A2 8 c2) (8) (byteCells bs2) rfl HK2.out V2.heap.size P2 4 q2 (byteCells (putN l 4)) rfl HL2.out HN2.out.cells (byteCells_one _) (by unfold maxLen; omega) (by omega) HC2.out.size ?_; intro A3 c3 W3 hA; have HA2 := Lib.hid hA; clear hA; have HB3 := Lib.hid (HA2.out.below HC2.out HC2.out.size (fun k hk => (HK2.out.lt k hk).1)); have hcell3 := (HB3.out.cell (p := ⟨w.heap.size, 2, none⟩) (by simp; try omega)).trans H2.out)
  obtain ⟨bs3, HE3⟩ : ∃ bs, Hid (bs = bs2 ++ putN l 4) := ⟨_, rfl⟩
  have HO3 : Hid (OwnY W3 W0.heap.size (.slice A3 (8 + 4) c3) (8 + 4) bs3) := by have h := HA2.out.own; rw [← byteCells_append, ← HE3.out] at h; exact h
  clear HA2 HK2 HC2 HN2 HM2 HL2 HO2 HB2
  simp only [Nat.reduceAdd] at HO3 ⊢
  clear hcell2
  have HP3 := Lib.hid (refPut_any ((s : Nat) : Int) 4 W3 (by omega) (by omega) (by omega) (by omega))
  rw [Int.toNat_natCast, cnt4] at HP3
  go_wp2_with fail
  refine HP3.out.mono ?_
  rintro e V3 ⟨P3, q3, rfl, hown, hbel⟩
  have HN3 := Lib.hid (OwnT.of hown)
  have HM3 := Lib.hid hbel
  clear hown hbel HP3
  have HK3 := Lib.hid (HO3.out.keep (Mod.of_below HM3.out) (fun _ _ h => h))
  have HC3 := Lib.hid (HB3.out.trans (HM3.out.mono HB3.out.size))
  have HL3 : Hid ((byteCells (putN s 4)).length = 4) := by show _ = _; rw [byteCells_length, putN_length]
  go_wp2_with (at_builtin; refine wpList_appT _ byteElem rfl (.tmp 17) (.tmp 20) rfl W0.heap.size (.slice A3 12 c3) (12) (byteCells bs3) rfl HK3.out V3.heap.size P3 4 q3 (byteCells (putN s 4)) rfl HL3.out HN3.out.cells (byteCells_one _) (by unfold maxLen; omega) (by omega) HC3.out.size ?_; intro A4 c4 W4 hA; have HA3 := Lib.hid hA; clear hA; have HB4 := Lib.hid (HA3.out.below HC3.out HC3.out.size (fun k hk => (HK3.out.lt k hk).1)))
  obtain ⟨bs4, HE4⟩ : ∃ bs, Hid (bs = bs3 ++ putN s 4) := ⟨_, rfl⟩
  have HO4 : Hid (OwnY W4 W0.heap.size (.slice A4 (12 + 4) c4) (12 + 4) bs4) := by have h := HA3.out.own; rw [← byteCells_append, ← HE4.out] at h; exact h
  clear HA3 HK3 HC3 HN3 HM3 HL3 HO3 HB3
  simp only [Nat.reduceAdd] at HO4 ⊢
  have HLN : Hid (bs4.length = 16) := by have h := HO4.out.1; rwa [byteCells_length] at h
  have HSM := Lib.hid (summed_any A4 16 c4 bs4 W4 HLN.out (by omega) HO4.out.cells)
  go_wp2_with (refine HSM.out.mono ?_; rintro e V ⟨P, q, rfl, hown, hbel⟩; have HOV := Lib.hid hown; have HBV := Lib.hid hbel; clear hown hbel)
  go_ret
  have hz := HZ.out
  have hk := HB4.out.size
  refine ⟨P, q, rfl, ?_, HF.out.trans ((HB4.out.mono (by omega)).trans (HBV.out.mono (by omega)))⟩
  have h := HOV.out.le (base' := w.heap.size) (by omega)
  rw [HE4.out, HE3.out, HE2.out, HE1.out] at h
  exact h
end Go.Proofs.YtaknladkodibaaaGreatDoor
