/- Layer 18: the reference's Put. -/
import Derived.Test.YtchdmbjjdifggaaDc
namespace Go.Proofs.Ytchdmbjjdifggaa
open Go.RowKit CrcP FieldP

set_option maxRecDepth 100000 in
set_option maxHeartbeats 1000000 in
theorem dcRefPut_any (c l s : Int) (w : World) (h : dcB c l = true) (s0 : 0 ≤ s) (s1 : s < 4294967296) : Calls Try.prog 13 #[.agg #[.int .i64 c, .int .i64 l, .int .u32 s]] w fun e w' =>
    ∃ A k, e = .returned (.slice A 20 k) ∧ OwnY w' w.heap.size (.slice A 20 k) 20 (descB c l s) ∧ Below w.heap.size w w' := by
  obtain ⟨hc0, hc1, hl0, hl1⟩ := dcB_yes h
  obtain ⟨c, rfl⟩ := Int.eq_ofNat_of_zero_le hc0
  obtain ⟨l, rfl⟩ := Int.eq_ofNat_of_zero_le (show 0 ≤ l by omega)
  obtain ⟨s, rfl⟩ := Int.eq_ofNat_of_zero_le s0
  obtain ⟨W0, hW0⟩ : ∃ W0, w.alloc (.cells #[.int .i64 (c : Int), .int .i64 (l : Int), .int .u32 (s : Int)] 34) = W0 := ⟨_, rfl⟩
  have HZ : Hid (W0.heap.size = w.heap.size + 1) := by show _ = _; rw [← hW0]; simp
  have HF : Hid (Below w.heap.size w W0) := by rw [← hW0]; exact (Below.refl w.heap.size w).alloc (Nat.le_refl _) _
  have HX : Hid (Box W0 w.heap.size #[.int .i64 (c : Int), .int .i64 (l : Int), .int .u32 (s : Int)] 34) := by rw [← hW0]; exact heap_alloc_new w _
  have hlt : w.heap.size < W0.heap.size := by rw [HZ.out]; omega
  have H0 : Hid (W0.cell? ⟨w.heap.size, 0, none⟩ = some (.int .i64 (c : Int))) := HX.out.cell 0
  have H1 : Hid (W0.cell? ⟨w.heap.size, 1, none⟩ = some (.int .i64 (l : Int))) := HX.out.cell 1
  have H2 : Hid (W0.cell? ⟨w.heap.size, 2, none⟩ = some (.int .u32 (s : Int))) := HX.out.cell 2
  have kc := fun (C : Array Value) (n k : Nat) => Joins.run_convert_bytes_const_at (P := Try.prog) (w.alloc (.cells #[.int .i64 (c : Int), .int .i64 (l : Int), .int .u32 (s : Int)] 34)) 28 5 C n k (w.heap.size + 1) (by simp) Try.underlying28 Try.underlying5
  have HO1 := Lib.hid (own_of_const W0 (base := W0.heap.size) (e := 5) (C := #[.int .u8 68, .int .u8 69, .int .u8 83, .int .u8 67]) (fz := (4, 5)) (n := 4) (xs := byteCells descBytes) rfl rfl (Nat.le_refl _) (by unfold maxLen; omega) (by simp))
  rw [HZ.out] at HO1
  have HB1 := Lib.hid ((Below.refl W0.heap.size W0).alloc (Nat.le_refl _) (.cells #[.int .u8 68, .int .u8 69, .int .u8 83, .int .u8 67] 5 (4, 5)))
  rw [← HZ.out] at HO1
  have HW0 := Lib.hid hW0
  clear h hW0
  go_enter Try.func13, Try.ntmps13
  go_wp2_with fail
  rw [HW0.out]
  clear kc
  rw [← HZ.out]
  obtain ⟨A1, c1, hA1⟩ : ∃ A1 c1, Value.slice (some ⟨W0.heap.size, 0, none⟩) 4 4 = .slice A1 4 c1 := ⟨_, _, rfl⟩
  rw [hA1] at HO1 ⊢
  clear hA1
  obtain ⟨bs1, HE1⟩ : ∃ bs, Hid (bs = descBytes) := ⟨_, rfl⟩
  rw [← HE1.out] at HO1
  generalize W0.alloc (.cells #[.int .u8 68, .int .u8 69, .int .u8 83, .int .u8 67] 5 (4, 5)) = W1 at *
  have HP1 := Lib.hid (refPut_any ((c : Nat) : Int) 4 W1 (by omega) (by omega) (by omega) (by omega))
  rw [Int.toNat_natCast, cnt4] at HP1
  go_wp2_with fail
  refine HP1.out.mono ?_
  rintro e V1 ⟨P1, q1, rfl, hown, hbel⟩
  have HN1 := Lib.hid (OwnT.of hown)
  have HM1 := Lib.hid hbel
  clear hown hbel HP1
  have HK1 := Lib.hid (HO1.out.keep (Mod.of_below HM1.out) (fun _ _ h => h))
  have HC1 := Lib.hid (HB1.out.trans (HM1.out.mono HB1.out.size))
  have HL1 : Hid ((byteCells (putN c 4)).length = 4) := by show _ = _; rw [byteCells_length, putN_length]
  go_wp2_with (at_builtin; refine wpList_appT _ byteElem rfl (.tmp 5) (.tmp 9) rfl W0.heap.size (.slice A1 4 c1) (4) (byteCells bs1) rfl HK1.out V1.heap.size P1 4 q1 (byteCells (putN c 4)) rfl HL1.out HN1.out.cells (byteCells_one _) (by unfold maxLen; omega) (by omega) HC1.out.size ?_; intro A2 c2 W2 hA; have HA1 := Lib.hid hA; clear hA; have HB2 := Lib.hid (HA1.out.below HC1.out HC1.out.size (fun k hk => (HK1.out.lt k hk).1)); have hcell2 := (HB2.out.cell (p := ⟨w.heap.size, 1, none⟩) (by simp; try omega)).trans H1.out)
  obtain ⟨bs2, HE2⟩ : ∃ bs, Hid (bs = bs1 ++ putN c 4) := ⟨_, rfl⟩
  have HO2 : Hid (OwnY W2 W0.heap.size (.slice A2 (4 + 4) c2) (4 + 4) bs2) := by have h := HA1.out.own; rw [← byteCells_append, ← HE2.out] at h; exact h
  clear HA1 HK1 HC1 HN1 HM1 HL1 HO1 HB1
  simp only [Nat.reduceAdd] at HO2 ⊢
  have HP2 := Lib.hid (refPut_any ((l : Nat) : Int) 4 W2 (by omega) (by omega) (by omega) (by omega))
  rw [Int.toNat_natCast, cnt4] at HP2
  go_wp2_with fail
  refine HP2.out.mono ?_
  rintro e V2 ⟨P2, q2, rfl, hown, hbel⟩
  have HN2 := Lib.hid (OwnT.of hown)
  have HM2 := Lib.hid hbel
  clear hown hbel HP2
  have HK2 := Lib.hid (HO2.out.keep (Mod.of_below HM2.out) (fun _ _ h => h))
  have HC2 := Lib.hid (HB2.out.trans (HM2.out.mono HB2.out.size))
  have HL2 : Hid ((byteCells (putN l 4)).length = 4) := by show _ = _; rw [byteCells_length, putN_length]
  go_wp2_with (at_builtin; refine wpList_appT _ byteElem rfl (.tmp 11) (.tmp 15) rfl W0.heap.size (.slice A2 8 c2) (8) (byteCells bs2) rfl HK2.out V2.heap.size P2 4 q2 (byteCells (putN l 4)) rfl HL2.out HN2.out.cells (byteCells_one _) (by unfold maxLen; omega) (by omega) HC2.out.size ?_; intro A3 c3 W3 hA; have HA2 := Lib.hid hA; clear hA; have HB3 := Lib.hid (HA2.out.below HC2.out HC2.out.size (fun k hk => (HK2.out.lt k hk).1)); have hcell3 := (HB3.out.cell (p := ⟨w.heap.size, 2, none⟩) (by simp; try omega)).trans H2.out)
  obtain ⟨bs3, HE3⟩ : ∃ bs, Hid (bs = bs2 ++ putN l 4) := ⟨_, rfl⟩
  have HO3 : Hid (OwnY W3 W0.heap.size (.slice A3 (8 + 4) c3) (8 + 4) bs3) := by have h := HA2.out.own; rw [← byteCells_append, ← HE3.out] at h; exact h
  clear HA2 HK2 HC2 HN2 HM2 HL2 HO2 HB2
  simp only [Nat.reduceAdd] at HO3 ⊢
  clear hcell2
  have HP3 := Lib.hid (refPut_any ((s : Nat) : Int) 4 W3 (by omega) (by omega) (by omega) (by omega))
  rw [Int.toNat_natCast, cnt4] at HP3
  go_wp2_with fail
  refine HP3.out.mono ?_
  rintro e V3 ⟨P3, q3, rfl, hown, hbel⟩
  have HN3 := Lib.hid (OwnT.of hown)
  have HM3 := Lib.hid hbel
  clear hown hbel HP3
  have HK3 := Lib.hid (HO3.out.keep (Mod.of_below HM3.out) (fun _ _ h => h))
  have HC3 := Lib.hid (HB3.out.trans (HM3.out.mono HB3.out.size))
  have HL3 : Hid ((byteCells (putN s 4)).length = 4) := by show _ = _; rw [byteCells_length, putN_length]
  go_wp2_with (at_builtin; refine wpList_appT _ byteElem rfl (.tmp 17) (.tmp 20) rfl W0.heap.size (.slice A3 12 c3) (12) (byteCells bs3) rfl HK3.out V3.heap.size P3 4 q3 (byteCells (putN s 4)) rfl HL3.out HN3.out.cells (byteCells_one _) (by unfold maxLen; omega) (by omega) HC3.out.size ?_; intro A4 c4 W4 hA; have HA3 := Lib.hid hA; clear hA; have HB4 := Lib.hid (HA3.out.below HC3.out HC3.out.size (fun k hk => (HK3.out.lt k hk).1)))
  obtain ⟨bs4, HE4⟩ : ∃ bs, Hid (bs = bs3 ++ putN s 4) := ⟨_, rfl⟩
  have HO4 : Hid (OwnY W4 W0.heap.size (.slice A4 (12 + 4) c4) (12 + 4) bs4) := by have h := HA3.out.own; rw [← byteCells_append, ← HE4.out] at h; exact h
  clear HA3 HK3 HC3 HN3 HM3 HL3 HO3 HB3
  simp only [Nat.reduceAdd] at HO4 ⊢
  have HLN : Hid (bs4.length = 16) := by have h := HO4.out.1; rwa [byteCells_length] at h
  have HSM := Lib.hid (summed_any A4 16 c4 bs4 W4 HLN.out (by omega) HO4.out.cells)
  go_wp2_with (refine HSM.out.mono ?_; rintro e V ⟨P, q, rfl, hown, hbel⟩; have HOV := Lib.hid hown; have HBV := Lib.hid hbel; clear hown hbel)
  go_ret
  have hz := HZ.out
  have hk := HB4.out.size
  refine ⟨P, q, rfl, ?_, HF.out.trans ((HB4.out.mono (by omega)).trans (HBV.out.mono (by omega)))⟩
  have h := HOV.out.le (base' := w.heap.size) (by omega)
  rw [HE4.out, HE3.out, HE2.out, HE1.out] at h
  exact h
end Go.Proofs.Ytchdmbjjdifggaa
