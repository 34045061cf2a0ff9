/- Layer 21: the reference's Put. -/
import Derived.Test.YtpokicngpapkcaaSlRef
import Derived.Test.YtpokicngpapkcaaKFieldR
namespace Go.Proofs.Ytpokicngpapkcaa
open Go.RowKit CrcP FieldP
attribute [local go_sem ↓] Go.wp_at_zero Go.wp_at_succ

set_option maxRecDepth 100000 in
set_option maxHeartbeats 2000000 in
theorem slRefPut_true (q e d : Nat) (w : World) (h : slB q e d true = true) : Calls Try.prog 13 #[.agg #[.int .i64 (q : Int), .int .i64 (e : Int), .int .i64 (d : Int), .bool true]] w fun x w' =>
    ∃ A k, x = .returned (.slice A 512 k) ∧ OwnY w' w.heap.size (.slice A 512 k) 512 (slotB q e d true) ∧ Below w.heap.size w w' := by
  have hp : slP q e d true := of_decide_eq_true h
  obtain ⟨p1, p2, p3, p4, p5⟩ := hp
  have hd4 : (d : Int) < 4294967296 := by
    simp at p5; omega
  clear p5
  have wq : IntKind.u32.wrap (q : Int) = q := IntWalk.u32_in _ (by omega)
  have we : IntKind.u32.wrap (e : Int) = e := IntWalk.u32_in _ (by omega)
  have wd : IntKind.u32.wrap (d : Int) = d := IntWalk.u32_in _ (by omega)
  have HDF : Hid (slotB q e d true = sealed (slMark ++ putN q 4 ++ putN e 4 ++ putN d 4 ++ putN (flagN true) 1) ++ List.replicate 491 0) := rfl
  obtain ⟨W0, hW0⟩ : ∃ W0, w.alloc (.cells #[.int .i64 (q : Int), .int .i64 (e : Int), .int .i64 (d : Int), .bool true] 23) = W0 := ⟨_, rfl⟩
  have HZ : Hid (W0.heap.size = w.heap.size + 1) := by show _ = _; rw [← hW0]; simp
  have HF : Hid (Below w.heap.size w W0) := by rw [← hW0]; exact (Below.refl w.heap.size w).alloc (Nat.le_refl _) _
  have HX : Hid (Box W0 w.heap.size #[.int .i64 (q : Int), .int .i64 (e : Int), .int .i64 (d : Int), .bool true] 23) := by rw [← hW0]; exact heap_alloc_new w _
  have hlt : w.heap.size < W0.heap.size := by rw [HZ.out]; omega
  have H0 : Hid (W0.cell? ⟨w.heap.size, 0, none⟩ = some (.int .i64 (q : Int))) := HX.out.cell 0
  have H1 : Hid (W0.cell? ⟨w.heap.size, 1, none⟩ = some (.int .i64 (e : Int))) := HX.out.cell 1
  have H2 : Hid (W0.cell? ⟨w.heap.size, 2, none⟩ = some (.int .i64 (d : Int))) := HX.out.cell 2
  have H3 : Hid (W0.cell? ⟨w.heap.size, 3, none⟩ = some (.bool true)) := HX.out.cell 3
  have kc := fun (C : Array Value) (n k : Nat) => Joins.run_convert_bytes_const_at (P := Try.prog) (w.alloc (.cells #[.int .i64 (q : Int), .int .i64 (e : Int), .int .i64 (d : Int), .bool true] 23)) 28 5 C n k (w.heap.size + 1) (by simp) Try.underlying28 Try.underlying5
  have HO1 := Lib.hid (own_of_const W0 (base := W0.heap.size) (e := 5) (C := #[.int .u8 83, .int .u8 76, .int .u8 79, .int .u8 84]) (fz := (4, 5)) (n := 4) (xs := byteCells slMark) rfl rfl (Nat.le_refl _) (by unfold maxLen; omega) (by simp))
  rw [HZ.out] at HO1
  have HB1 := Lib.hid ((Below.refl W0.heap.size W0).alloc (Nat.le_refl _) (.cells #[.int .u8 83, .int .u8 76, .int .u8 79, .int .u8 84] 5 (4, 5)))
  rw [← HZ.out] at HO1
  have HW0 := Lib.hid hW0
  clear h hW0
  go_enter Try.func13, Try.ntmps13
  go_wp2_with fail
  rw [HW0.out]
  clear kc
  rw [← HZ.out]
  obtain ⟨A1, c1, hA1⟩ : ∃ A1 c1, Value.slice (some ⟨W0.heap.size, 0, none⟩) 4 4 = .slice A1 4 c1 := ⟨_, _, rfl⟩
  rw [hA1] at HO1 ⊢
  clear hA1
  obtain ⟨bs1, HE1⟩ : ∃ bs, Hid (bs = slMark) := ⟨_, rfl⟩
  rw [← HE1.out] at HO1
  generalize W0.alloc (.cells #[.int .u8 83, .int .u8 76, .int .u8 79, .int .u8 84] 5 (4, 5)) = W1 at *
  have HP1 := Lib.hid (refPut_any ((q : Nat) : Int) 4 W1 (by omega) (by omega) (by omega) (by omega))
  rw [Int.toNat_natCast, cnt4] at HP1
  go_wp2_with fail
  refine HP1.out.mono ?_
  rintro e V1 ⟨P1, q1, rfl, hown, hbel⟩
  have HN1 := Lib.hid (OwnT.of hown)
  have HM1 := Lib.hid hbel
  clear hown hbel HP1
  have HK1 := Lib.hid (HO1.out.keep (Mod.of_below HM1.out) (fun _ _ h => h))
  have HC1 := Lib.hid (HB1.out.trans (HM1.out.mono HB1.out.size))
  have HL1 : Hid ((byteCells (putN q 4)).length = 4) := by show _ = _; rw [byteCells_length, putN_length]
  go_wp2_with (at_builtin; refine wpList_appT _ byteElem rfl (.tmp 6) (.tmp 10) rfl W0.heap.size (.slice A1 4 c1) (4) (byteCells bs1) rfl HK1.out V1.heap.size P1 4 q1 (byteCells (putN q 4)) rfl HL1.out HN1.out.cells (byteCells_one _) (by unfold maxLen; omega) (by omega) HC1.out.size ?_; intro A2 c2 W2 hA; have HA1 := Lib.hid hA; clear hA; have HB2 := Lib.hid (HA1.out.below HC1.out HC1.out.size (fun k hk => (HK1.out.lt k hk).1)); have hcell2 := (HB2.out.cell (p := ⟨w.heap.size, 1, none⟩) (by simp; try omega)).trans H1.out)
  obtain ⟨bs2, HE2⟩ : ∃ bs, Hid (bs = bs1 ++ putN q 4) := ⟨_, rfl⟩
  have HO2 : Hid (OwnY W2 W0.heap.size (.slice A2 (4 + 4) c2) (4 + 4) bs2) := by have h := HA1.out.own; rw [← byteCells_append, ← HE2.out] at h; exact h
  clear HA1 HK1 HC1 HN1 HM1 HL1 HO1 HB1
  simp only [Nat.reduceAdd] at HO2 ⊢
  have HP2 := Lib.hid (refPut_any ((e : Nat) : Int) 4 W2 (by omega) (by omega) (by omega) (by omega))
  rw [Int.toNat_natCast, cnt4] at HP2
  go_wp2_with fail
  refine HP2.out.mono ?_
  rintro e V2 ⟨P2, q2, rfl, hown, hbel⟩
  have HN2 := Lib.hid (OwnT.of hown)
  have HM2 := Lib.hid hbel
  clear hown hbel HP2
  have HK2 := Lib.hid (HO2.out.keep (Mod.of_below HM2.out) (fun _ _ h => h))
  have HC2 := Lib.hid (HB2.out.trans (HM2.out.mono HB2.out.size))
  have HL2 : Hid ((byteCells (putN e 4)).length = 4) := by show _ = _; rw [byteCells_length, putN_length]
  go_wp2_with (at_builtin; refine wpList_appT _ byteElem rfl (.tmp 12) (.tmp 16) rfl W0.heap.size (.slice A2 8 c2) (8) (byteCells bs2) rfl HK2.out V2.heap.size P2 4 q2 (byteCells (putN e 4)) rfl HL2.out HN2.out.cells (byteCells_one _) (by unfold maxLen; omega) (by omega) HC2.out.size ?_; intro A3 c3 W3 hA; have HA2 := Lib.hid hA; clear hA; have HB3 := Lib.hid (HA2.out.below HC2.out HC2.out.size (fun k hk => (HK2.out.lt k hk).1)); have hcell3 := (HB3.out.cell (p := ⟨w.heap.size, 2, none⟩) (by simp; try omega)).trans H2.out)
  obtain ⟨bs3, HE3⟩ : ∃ bs, Hid (bs = bs2 ++ putN e 4) := ⟨_, rfl⟩
  have HO3 : Hid (OwnY W3 W0.heap.size (.slice A3 (8 + 4) c3) (8 + 4) bs3) := by have h := HA2.out.own; rw [← byteCells_append, ← HE3.out] at h; exact h
  clear HA2 HK2 HC2 HN2 HM2 HL2 HO2 HB2
  simp only [Nat.reduceAdd] at HO3 ⊢
  clear hcell2
  have HP3 := Lib.hid (refPut_any ((d : Nat) : Int) 4 W3 (by omega) (by omega) (by omega) (by omega))
  rw [Int.toNat_natCast, cnt4] at HP3
  go_wp2_with fail
  refine HP3.out.mono ?_
  rintro e V3 ⟨P3, q3, rfl, hown, hbel⟩
  have HN3 := Lib.hid (OwnT.of hown)
  have HM3 := Lib.hid hbel
  clear hown hbel HP3
  have HK3 := Lib.hid (HO3.out.keep (Mod.of_below HM3.out) (fun _ _ h => h))
  have HC3 := Lib.hid (HB3.out.trans (HM3.out.mono HB3.out.size))
  have HL3 : Hid ((byteCells (putN d 4)).length = 4) := by show _ = _; rw [byteCells_length, putN_length]
  go_wp2_with (first
    | (at_builtin; refine wpList_appT _ byteElem rfl (.tmp 18) (.tmp 22) rfl W0.heap.size (.slice A3 12 c3) (12) (byteCells bs3) rfl HK3.out V3.heap.size P3 4 q3 (byteCells (putN d 4)) rfl HL3.out HN3.out.cells (byteCells_one _) (by unfold maxLen; omega) (by omega) HC3.out.size ?_; intro A4 c4 W4 hA; have HA3 := Lib.hid hA; clear hA; have HB4 := Lib.hid (HA3.out.below HC3.out HC3.out.size (fun k hk => (HK3.out.lt k hk).1)); obtain ⟨bs4, HE4⟩ : ∃ bs, Hid (bs = bs3 ++ putN d 4) := ⟨_, rfl⟩; have HO4 : Hid (OwnY W4 W0.heap.size (.slice A4 (12 + 4) c4) (12 + 4) bs4) := (by have h := HA3.out.own; rw [← byteCells_append, ← HE4.out] at h; exact h); clear HA3 HK3 HC3 HN3 HM3 HL3 HO3 HB3; simp only [Nat.reduceAdd] at HO4; clear hcell3; have hcell4 := (HB4.out.cell (p := ⟨w.heap.size, 3, none⟩) (by simp; try omega)).trans H3.out; have HFB : Hid ([Value.int .u8 1] = byteCells (putN (flagN true) 1)) := rfl; have hz := HZ.out; have HQ := Lib.hid (fun (W5 : World) (A5 : Option Addr) (c5 : Nat) (hA : AppT W4 W0.heap.size 5 (.slice A4 16 c4) (16 + 1) (byteCells bs4 ++ #[Value.int .u8 1].toList) W5 (.slice A5 (16 + 1) c5)) => (⟨by have h := hA.own; rw [show #[Value.int .u8 1].toList = byteCells (putN (flagN true) 1) from HFB.out, ← byteCells_append] at h; exact h, hA.below HB4.out HB4.out.size (fun k hk => (HO4.out.lt k hk).1)⟩ : OwnY W5 W0.heap.size (.slice A5 17 c5) 17 (bs4 ++ putN (flagN true) 1) ∧ Below W0.heap.size W0 W5)); have HSM := Lib.hid (fun (W5 : World) (A5 : Option Addr) (c5 : Nat) (h : OwnY W5 W0.heap.size (.slice A5 17 c5) 17 (bs4 ++ putN (flagN true) 1)) => summed_any A5 17 c5 (bs4 ++ putN (flagN true) 1) W5 (by have g := h.1; rwa [byteCells_length] at g) (by omega) h.cells); have HQZ := Lib.hid (fun (W5 V : World) (P : Option Addr) (k : Nat) (h5 : Below W0.heap.size W0 W5) (hown : OwnY V W5.heap.size (.slice P 21 k) 21 (sealed (bs4 ++ putN (flagN true) 1))) (hbel : Below W5.heap.size W5 V) (V6 : World) (P6 : Option Addr) (k6 : Nat) (happ : AppT V W5.heap.size 5 (.slice P 21 k) (21 + 491) (byteCells (sealed (bs4 ++ putN (flagN true) 1)) ++ List.replicate 491 (Value.int .u8 0)) V6 (.slice P6 (21 + 491) k6)) => (⟨by have h := happ.own.le (base' := w.heap.size) (by have := h5.size; omega); rw [zeros_cells, ← byteCells_append, HE4.out, HE3.out, HE2.out, HE1.out] at h; exact h, HF.out.trans ((h5.mono (by omega)).trans ((happ.below hbel hbel.size (fun k hk => (hown.lt k hk).1)).mono (by have := h5.size; omega)))⟩ : OwnY V6 w.heap.size (.slice P6 512 k6) 512 (slotB q e d true) ∧ Below w.heap.size w V6)))
    | (at_builtin; refine wpList_appT1 W4 byteElem rfl (.tmp 26) (.tmp 28) rfl W0.heap.size (.slice A4 16 c4) 16 (byteCells bs4) rfl HO4.out #[.int .u8 1] rfl rfl (by simp [Value.oneCell']) (by unfold maxLen; omega) (by omega) HB4.out.size ?_; intro A5 c5 W5 hA; have HA5 := Lib.hid (HQ.out W5 A5 c5 hA); clear hA)
    | (go_at_call 25; refine (HSM.out _ _ _ HA5.out.1).mono ?_; rintro x V ⟨P, k, rfl, hown, hbel⟩; have HOV := Lib.hid hown; have HBV := Lib.hid hbel; clear hown hbel)
    | (at_builtin; refine wpList_appT_zeros _ byteElem 3 .i64 Try.underlying3 rfl rfl (.tmp 31) (.tmp 34) rfl W5.heap.size (.slice P 21 k) 21 (byteCells (sealed (bs4 ++ putN (flagN true) 1))) rfl HOV.out .i64 491 491 rfl rfl (by omega) (by unfold maxLen; omega) (by omega) HBV.out.size ?_; intro P6 k6 V6 hA; have HA6 := Lib.hid (HQZ.out W5 V P k HA5.out.2 HOV.out HBV.out V6 P6 k6 hA); clear hA))
  go_ret
  exact ⟨P6, k6, rfl, HA6.out.1, HA6.out.2⟩
set_option maxRecDepth 100000 in
set_option maxHeartbeats 2000000 in
theorem slRefPut_false (q e d : Nat) (w : World) (h : slB q e d false = true) : Calls Try.prog 13 #[.agg #[.int .i64 (q : Int), .int .i64 (e : Int), .int .i64 (d : Int), .bool false]] w fun x w' =>
    ∃ A k, x = .returned (.slice A 512 k) ∧ OwnY w' w.heap.size (.slice A 512 k) 512 (slotB q e d false) ∧ Below w.heap.size w w' := by
  have hp : slP q e d false := of_decide_eq_true h
  obtain ⟨p1, p2, p3, p4, p5⟩ := hp
  have hd4 : (d : Int) < 4294967296 := by
    simp at p5; omega
  clear p5
  have wq : IntKind.u32.wrap (q : Int) = q := IntWalk.u32_in _ (by omega)
  have we : IntKind.u32.wrap (e : Int) = e := IntWalk.u32_in _ (by omega)
  have wd : IntKind.u32.wrap (d : Int) = d := IntWalk.u32_in _ (by omega)
  have HDF : Hid (slotB q e d false = sealed (slMark ++ putN q 4 ++ putN e 4 ++ putN d 4 ++ putN (flagN false) 1) ++ List.replicate 491 0) := rfl
  obtain ⟨W0, hW0⟩ : ∃ W0, w.alloc (.cells #[.int .i64 (q : Int), .int .i64 (e : Int), .int .i64 (d : Int), .bool false] 23) = W0 := ⟨_, rfl⟩
  have HZ : Hid (W0.heap.size = w.heap.size + 1) := by show _ = _; rw [← hW0]; simp
  have HF : Hid (Below w.heap.size w W0) := by rw [← hW0]; exact (Below.refl w.heap.size w).alloc (Nat.le_refl _) _
  have HX : Hid (Box W0 w.heap.size #[.int .i64 (q : Int), .int .i64 (e : Int), .int .i64 (d : Int), .bool false] 23) := by rw [← hW0]; exact heap_alloc_new w _
  have hlt : w.heap.size < W0.heap.size := by rw [HZ.out]; omega
  have H0 : Hid (W0.cell? ⟨w.heap.size, 0, none⟩ = some (.int .i64 (q : Int))) := HX.out.cell 0
  have H1 : Hid (W0.cell? ⟨w.heap.size, 1, none⟩ = some (.int .i64 (e : Int))) := HX.out.cell 1
  have H2 : Hid (W0.cell? ⟨w.heap.size, 2, none⟩ = some (.int .i64 (d : Int))) := HX.out.cell 2
  have H3 : Hid (W0.cell? ⟨w.heap.size, 3, none⟩ = some (.bool false)) := HX.out.cell 3
  have kc := fun (C : Array Value) (n k : Nat) => Joins.run_convert_bytes_const_at (P := Try.prog) (w.alloc (.cells #[.int .i64 (q : Int), .int .i64 (e : Int), .int .i64 (d : Int), .bool false] 23)) 28 5 C n k (w.heap.size + 1) (by simp) Try.underlying28 Try.underlying5
  have HO1 := Lib.hid (own_of_const W0 (base := W0.heap.size) (e := 5) (C := #[.int .u8 83, .int .u8 76, .int .u8 79, .int .u8 84]) (fz := (4, 5)) (n := 4) (xs := byteCells slMark) rfl rfl (Nat.le_refl _) (by unfold maxLen; omega) (by simp))
  rw [HZ.out] at HO1
  have HB1 := Lib.hid ((Below.refl W0.heap.size W0).alloc (Nat.le_refl _) (.cells #[.int .u8 83, .int .u8 76, .int .u8 79, .int .u8 84] 5 (4, 5)))
  rw [← HZ.out] at HO1
  have HW0 := Lib.hid hW0
  clear h hW0
  go_enter Try.func13, Try.ntmps13
  go_wp2_with fail
  rw [HW0.out]
  clear kc
  rw [← HZ.out]
  obtain ⟨A1, c1, hA1⟩ : ∃ A1 c1, Value.slice (some ⟨W0.heap.size, 0, none⟩) 4 4 = .slice A1 4 c1 := ⟨_, _, rfl⟩
  rw [hA1] at HO1 ⊢
  clear hA1
  obtain ⟨bs1, HE1⟩ : ∃ bs, Hid (bs = slMark) := ⟨_, rfl⟩
  rw [← HE1.out] at HO1
  generalize W0.alloc (.cells #[.int .u8 83, .int .u8 76, .int .u8 79, .int .u8 84] 5 (4, 5)) = W1 at *
  have HP1 := Lib.hid (refPut_any ((q : Nat) : Int) 4 W1 (by omega) (by omega) (by omega) (by omega))
  rw [Int.toNat_natCast, cnt4] at HP1
  go_wp2_with fail
  refine HP1.out.mono ?_
  rintro e V1 ⟨P1, q1, rfl, hown, hbel⟩
  have HN1 := Lib.hid (OwnT.of hown)
  have HM1 := Lib.hid hbel
  clear hown hbel HP1
  have HK1 := Lib.hid (HO1.out.keep (Mod.of_below HM1.out) (fun _ _ h => h))
  have HC1 := Lib.hid (HB1.out.trans (HM1.out.mono HB1.out.size))
  have HL1 : Hid ((byteCells (putN q 4)).length = 4) := by show _ = _; rw [byteCells_length, putN_length]
  go_wp2_with (at_builtin; refine wpList_appT _ byteElem rfl (.tmp 6) (.tmp 10) rfl W0.heap.size (.slice A1 4 c1) (4) (byteCells bs1) rfl HK1.out V1.heap.size P1 4 q1 (byteCells (putN q 4)) rfl HL1.out HN1.out.cells (byteCells_one _) (by unfold maxLen; omega) (by omega) HC1.out.size ?_; intro A2 c2 W2 hA; have HA1 := Lib.hid hA; clear hA; have HB2 := Lib.hid (HA1.out.below HC1.out HC1.out.size (fun k hk => (HK1.out.lt k hk).1)); have hcell2 := (HB2.out.cell (p := ⟨w.heap.size, 1, none⟩) (by simp; try omega)).trans H1.out)
  obtain ⟨bs2, HE2⟩ : ∃ bs, Hid (bs = bs1 ++ putN q 4) := ⟨_, rfl⟩
  have HO2 : Hid (OwnY W2 W0.heap.size (.slice A2 (4 + 4) c2) (4 + 4) bs2) := by have h := HA1.out.own; rw [← byteCells_append, ← HE2.out] at h; exact h
  clear HA1 HK1 HC1 HN1 HM1 HL1 HO1 HB1
  simp only [Nat.reduceAdd] at HO2 ⊢
  have HP2 := Lib.hid (refPut_any ((e : Nat) : Int) 4 W2 (by omega) (by omega) (by omega) (by omega))
  rw [Int.toNat_natCast, cnt4] at HP2
  go_wp2_with fail
  refine HP2.out.mono ?_
  rintro e V2 ⟨P2, q2, rfl, hown, hbel⟩
  have HN2 := Lib.hid (OwnT.of hown)
  have HM2 := Lib.hid hbel
  clear hown hbel HP2
  have HK2 := Lib.hid (HO2.out.keep (Mod.of_below HM2.out) (fun _ _ h => h))
  have HC2 := Lib.hid (HB2.out.trans (HM2.out.mono HB2.out.size))
  have HL2 : Hid ((byteCells (putN e 4)).length = 4) := by show _ = _; rw [byteCells_length, putN_length]
  go_wp2_with (at_builtin; refine wpList_appT _ byteElem rfl (.tmp 12) (.tmp 16) rfl W0.heap.size (.slice A2 8 c2) (8) (byteCells bs2) rfl HK2.out V2.heap.size P2 4 q2 (byteCells (putN e 4)) rfl HL2.out HN2.out.cells (byteCells_one _) (by unfold maxLen; omega) (by omega) HC2.out.size ?_; intro A3 c3 W3 hA; have HA2 := Lib.hid hA; clear hA; have HB3 := Lib.hid (HA2.out.below HC2.out HC2.out.size (fun k hk => (HK2.out.lt k hk).1)); have hcell3 := (HB3.out.cell (p := ⟨w.heap.size, 2, none⟩) (by simp; try omega)).trans H2.out)
  obtain ⟨bs3, HE3⟩ : ∃ bs, Hid (bs = bs2 ++ putN e 4) := ⟨_, rfl⟩
  have HO3 : Hid (OwnY W3 W0.heap.size (.slice A3 (8 + 4) c3) (8 + 4) bs3) := by have h := HA2.out.own; rw [← byteCells_append, ← HE3.out] at h; exact h
  clear HA2 HK2 HC2 HN2 HM2 HL2 HO2 HB2
  simp only [Nat.reduceAdd] at HO3 ⊢
  clear hcell2
  have HP3 := Lib.hid (refPut_any ((d : Nat) : Int) 4 W3 (by omega) (by omega) (by omega) (by omega))
  rw [Int.toNat_natCast, cnt4] at HP3
  go_wp2_with fail
  refine HP3.out.mono ?_
  rintro e V3 ⟨P3, q3, rfl, hown, hbel⟩
  have HN3 := Lib.hid (OwnT.of hown)
  have HM3 := Lib.hid hbel
  clear hown hbel HP3
  have HK3 := Lib.hid (HO3.out.keep (Mod.of_below HM3.out) (fun _ _ h => h))
  have HC3 := Lib.hid (HB3.out.trans (HM3.out.mono HB3.out.size))
  have HL3 : Hid ((byteCells (putN d 4)).length = 4) := by show _ = _; rw [byteCells_length, putN_length]
  go_wp2_with (first
    | (at_builtin; refine wpList_appT _ byteElem rfl (.tmp 18) (.tmp 22) rfl W0.heap.size (.slice A3 12 c3) (12) (byteCells bs3) rfl HK3.out V3.heap.size P3 4 q3 (byteCells (putN d 4)) rfl HL3.out HN3.out.cells (byteCells_one _) (by unfold maxLen; omega) (by omega) HC3.out.size ?_; intro A4 c4 W4 hA; have HA3 := Lib.hid hA; clear hA; have HB4 := Lib.hid (HA3.out.below HC3.out HC3.out.size (fun k hk => (HK3.out.lt k hk).1)); obtain ⟨bs4, HE4⟩ : ∃ bs, Hid (bs = bs3 ++ putN d 4) := ⟨_, rfl⟩; have HO4 : Hid (OwnY W4 W0.heap.size (.slice A4 (12 + 4) c4) (12 + 4) bs4) := (by have h := HA3.out.own; rw [← byteCells_append, ← HE4.out] at h; exact h); clear HA3 HK3 HC3 HN3 HM3 HL3 HO3 HB3; simp only [Nat.reduceAdd] at HO4; clear hcell3; have hcell4 := (HB4.out.cell (p := ⟨w.heap.size, 3, none⟩) (by simp; try omega)).trans H3.out; have HFB : Hid ([Value.int .u8 0] = byteCells (putN (flagN false) 1)) := rfl; have hz := HZ.out; have HQ := Lib.hid (fun (W5 : World) (A5 : Option Addr) (c5 : Nat) (hA : AppT W4 W0.heap.size 5 (.slice A4 16 c4) (16 + 1) (byteCells bs4 ++ #[Value.int .u8 0].toList) W5 (.slice A5 (16 + 1) c5)) => (⟨by have h := hA.own; rw [show #[Value.int .u8 0].toList = byteCells (putN (flagN false) 1) from HFB.out, ← byteCells_append] at h; exact h, hA.below HB4.out HB4.out.size (fun k hk => (HO4.out.lt k hk).1)⟩ : OwnY W5 W0.heap.size (.slice A5 17 c5) 17 (bs4 ++ putN (flagN false) 1) ∧ Below W0.heap.size W0 W5)); have HSM := Lib.hid (fun (W5 : World) (A5 : Option Addr) (c5 : Nat) (h : OwnY W5 W0.heap.size (.slice A5 17 c5) 17 (bs4 ++ putN (flagN false) 1)) => summed_any A5 17 c5 (bs4 ++ putN (flagN false) 1) W5 (by have g := h.1; rwa [byteCells_length] at g) (by omega) h.cells); have HQZ := Lib.hid (fun (W5 V : World) (P : Option Addr) (k : Nat) (h5 : Below W0.heap.size W0 W5) (hown : OwnY V W5.heap.size (.slice P 21 k) 21 (sealed (bs4 ++ putN (flagN false) 1))) (hbel : Below W5.heap.size W5 V) (V6 : World) (P6 : Option Addr) (k6 : Nat) (happ : AppT V W5.heap.size 5 (.slice P 21 k) (21 + 491) (byteCells (sealed (bs4 ++ putN (flagN false) 1)) ++ List.replicate 491 (Value.int .u8 0)) V6 (.slice P6 (21 + 491) k6)) => (⟨by have h := happ.own.le (base' := w.heap.size) (by have := h5.size; omega); rw [zeros_cells, ← byteCells_append, HE4.out, HE3.out, HE2.out, HE1.out] at h; exact h, HF.out.trans ((h5.mono (by omega)).trans ((happ.below hbel hbel.size (fun k hk => (hown.lt k hk).1)).mono (by have := h5.size; omega)))⟩ : OwnY V6 w.heap.size (.slice P6 512 k6) 512 (slotB q e d false) ∧ Below w.heap.size w V6)))
    | (at_builtin; refine wpList_appT1 W4 byteElem rfl (.tmp 26) (.tmp 28) rfl W0.heap.size (.slice A4 16 c4) 16 (byteCells bs4) rfl HO4.out #[.int .u8 0] rfl rfl (by simp [Value.oneCell']) (by unfold maxLen; omega) (by omega) HB4.out.size ?_; intro A5 c5 W5 hA; have HA5 := Lib.hid (HQ.out W5 A5 c5 hA); clear hA)
    | (go_at_call 25; refine (HSM.out _ _ _ HA5.out.1).mono ?_; rintro x V ⟨P, k, rfl, hown, hbel⟩; have HOV := Lib.hid hown; have HBV := Lib.hid hbel; clear hown hbel)
    | (at_builtin; refine wpList_appT_zeros _ byteElem 3 .i64 Try.underlying3 rfl rfl (.tmp 31) (.tmp 34) rfl W5.heap.size (.slice P 21 k) 21 (byteCells (sealed (bs4 ++ putN (flagN false) 1))) rfl HOV.out .i64 491 491 rfl rfl (by omega) (by unfold maxLen; omega) (by omega) HBV.out.size ?_; intro P6 k6 V6 hA; have HA6 := Lib.hid (HQZ.out W5 V P k HA5.out.2 HOV.out HBV.out V6 P6 k6 hA); clear hA))
  go_ret
  exact ⟨P6, k6, rfl, HA6.out.1, HA6.out.2⟩
theorem slRefPut_any (q e d : Nat) (c : Bool) (w : World) (h : slB q e d c = true) : Calls Try.prog 13 #[.agg #[.int .i64 (q : Int), .int .i64 (e : Int), .int .i64 (d : Int), .bool c]] w fun x w' =>
    ∃ A k, x = .returned (.slice A 512 k) ∧ OwnY w' w.heap.size (.slice A 512 k) 512 (slotB q e d c) ∧ Below w.heap.size w w' := by
  cases c with
  | true => exact slRefPut_true q e d w h
  | false => exact slRefPut_false q e d w h
end Go.Proofs.Ytpokicngpapkcaa
