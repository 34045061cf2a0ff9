/- Layer 16: the reference's Put. -/
import Derived.Test.YtkhmcaoabfifcaaDoorLcRR
import Derived.Test.YtkhmcaoabfifcaaDoorLcPl
import Derived.Test.YtkhmcaoabfifcaaDoorKSum
import Derived.Test.YtkhmcaoabfifcaaDoorKFieldR
import Derived.Lib.SmallJoins
namespace Go.Proofs.YtkhmcaoabfifcaaDoor
open Go.RowKit CrcP FieldP
attribute [local go_sem ↓] Go.wp_at_zero Go.wp_at_succ

set_option maxRecDepth 100000 in
set_option maxHeartbeats 2000000 in
theorem lcRefPut_any (m : Nat) (s : ByteArray) (sz ar su : Nat) (w : World) (h : hdB m s.data.toList sz ar su = true) (hsu : su < 4294967296) : Calls Tryd.prog 12 #[.agg #[.int .i64 (m : Int), .string s, .int .i64 (sz : Int), .int .i64 (ar : Int), .int .u32 (su : Int)]] w fun x w' =>
    ∃ A k, x = .returned (.slice A (22 + s.size) k) ∧ OwnY w' w.heap.size (.slice A (22 + s.size) k) (22 + s.size) (headB m s.data.toList sz ar su) ∧ Below w.heap.size w w' := by
  obtain ⟨_, m2, _, z2, _, a2⟩ := hdB_nums h
  have hln : s.data.toList.length = s.size := by rw [Array.length_toList]; rfl
  have h64 := (rightB_len' (hdB_name h)).2
  rw [hln] at h64
  have wm : IntKind.u8.wrap (m : Int) = m := IntWalk.u8_in _ (by omega)
  have wl : IntKind.u8.wrap (s.size : Int) = s.size := IntWalk.u8_in _ (by omega)
  have wz : IntKind.u32.wrap (sz : Int) = sz := IntWalk.u32_in _ (by omega)
  have wa : IntKind.u32.wrap (ar : Int) = ar := IntWalk.u32_in _ (by omega)
  have HDF : Hid (headB m s.data.toList sz ar su = sealed (headBytes ++ (putN m 1 ++ putN s.size 1) ++ putN sz 4 ++ putN ar 4 ++ putN su 4 ++ s.data.toList)) := by
    show _ = _
    rw [← hln]
    unfold headB
    congr 1
  have HTW : Hid ([Value.int .u8 (m : Int), Value.int .u8 (s.size : Int)] = byteCells (putN m 1 ++ putN s.size 1)) := by
    show _ = _
    have e1 : (UInt8.ofNat m).toNat = m := by rw [byte_toNat]; omega
    have e2 : (UInt8.ofNat s.size).toNat = s.size := by rw [byte_toNat]; omega
    rw [putN_cons, putN_cons]
    show _ = [Value.int .u8 ((UInt8.ofNat m).toNat : Int), Value.int .u8 ((UInt8.ofNat s.size).toNat : Int)]
    rw [e1, e2]
  obtain ⟨W0, hW0⟩ : ∃ W0, w.alloc (.cells #[.int .i64 (m : Int), .string s, .int .i64 (sz : Int), .int .i64 (ar : Int), .int .u32 (su : Int)] 35) = W0 := ⟨_, rfl⟩
  have HZ : Hid (W0.heap.size = w.heap.size + 1) := by show _ = _; rw [← hW0]; simp
  have HF : Hid (Below w.heap.size w W0) := by rw [← hW0]; exact (Below.refl w.heap.size w).alloc (Nat.le_refl _) _
  have HX : Hid (Box W0 w.heap.size #[.int .i64 (m : Int), .string s, .int .i64 (sz : Int), .int .i64 (ar : Int), .int .u32 (su : Int)] 35) := by rw [← hW0]; exact heap_alloc_new w _
  have hlt : w.heap.size < W0.heap.size := by rw [HZ.out]; omega
  have H0 : Hid (W0.cell? ⟨w.heap.size, 0, none⟩ = some (.int .i64 (m : Int))) := HX.out.cell 0
  have H1 : Hid (W0.cell? ⟨w.heap.size, 1, none⟩ = some (.string s)) := HX.out.cell 1
  have H2 : Hid (W0.cell? ⟨w.heap.size, 2, none⟩ = some (.int .i64 (sz : Int))) := HX.out.cell 2
  have H3 : Hid (W0.cell? ⟨w.heap.size, 3, none⟩ = some (.int .i64 (ar : Int))) := HX.out.cell 3
  have H4 : Hid (W0.cell? ⟨w.heap.size, 4, none⟩ = some (.int .u32 (su : Int))) := HX.out.cell 4
  have kc := fun (C : Array Value) (n k : Nat) => Joins.run_convert_bytes_const_at (P := Tryd.prog) (w.alloc (.cells #[.int .i64 (m : Int), .string s, .int .i64 (sz : Int), .int .i64 (ar : Int), .int .u32 (su : Int)] 35)) 29 5 C n k (w.heap.size + 1) (by simp) Tryd.underlying29 Tryd.underlying5
  obtain ⟨WM, hWM⟩ : ∃ WM, W0.alloc (.cells #[.int .u8 76, .int .u8 77, .int .u8 66, .int .u8 82] 5 (4, 5)) = WM := ⟨_, rfl⟩
  have HOM : Hid (OwnY WM W0.heap.size (.slice (some ⟨W0.heap.size, 0, none⟩) 4 4) 4 headBytes) := by rw [← hWM]; exact own_of_const W0 (base := W0.heap.size) (e := 5) (C := #[.int .u8 76, .int .u8 77, .int .u8 66, .int .u8 82]) (fz := (4, 5)) (n := 4) (xs := byteCells headBytes) rfl rfl (Nat.le_refl _) (by unfold maxLen; omega) (by simp)
  have HBM : Hid (Below W0.heap.size W0 WM) := by rw [← hWM]; exact (Below.refl W0.heap.size W0).alloc (Nat.le_refl _) _
  obtain ⟨W1, hW1⟩ : ∃ W1, WM.alloc (.cells #[.int .u8 (m : Int), .int .u8 (s.size : Int)] 5) = W1 := ⟨_, rfl⟩
  have HO1 : Hid (OwnY W1 W0.heap.size (.slice (some ⟨W0.heap.size, 0, none⟩) 4 4) 4 headBytes) := by rw [← hW1]; exact HOM.out.alloc _
  have HB1 : Hid (Below W0.heap.size W0 W1) := by rw [← hW1]; exact HBM.out.alloc HBM.out.size _
  have HS1 : Hid (Cells W1 (WM.heap.size + 1) (some ⟨WM.heap.size, 0, none⟩) (byteCells (putN m 1 ++ putN s.size 1))) := by
    rw [← hW1, ← HTW.out]
    exact fun _ => ⟨WM.heap.size, 0, rfl, by omega, fun j u hj => by
      rw [Nat.zero_add, cell_of_row _ _ _ _ _ _ (heap_alloc_new WM _)]
      simpa using hj⟩
  have HZM : Hid (WM.heap.size = w.heap.size + 1 + 1) := by show _ = _; rw [← hWM, ← hW0]; simp
  have HEQ : Hid (((w.alloc (.cells #[.int .i64 (m : Int), .string s, .int .i64 (sz : Int), .int .i64 (ar : Int), .int .u32 (su : Int)] 35)).alloc (.cells #[.int .u8 76, .int .u8 77, .int .u8 66, .int .u8 82] 5 (4, 5))).alloc (.cells #[.int .u8 (m : Int), .int .u8 (s.size : Int)] 5) = W1) := by show _ = _; rw [hW0, hWM, hW1]
  have HL2 : Hid ((byteCells (putN m 1 ++ putN s.size 1)).length = 2) := by show _ = _; rw [byteCells_length, List.length_append, putN_length, putN_length]
  have HQ1 := Lib.hid (fun (V : World) (A : Option Addr) (k : Nat) (HA : AppT W1 W0.heap.size 5 (.slice (some ⟨W0.heap.size, 0, none⟩) 4 4) (4 + 2) (byteCells headBytes ++ byteCells (putN m 1 ++ putN s.size 1)) V (.slice A (4 + 2) k)) =>
    (⟨by have h := HA.own; rw [← byteCells_append] at h; exact h, HA.below HB1.out HB1.out.size (fun k hk => (HO1.out.lt k hk).1)⟩ : OwnY V W0.heap.size (.slice A 6 k) 6 (headBytes ++ (putN m 1 ++ putN s.size 1)) ∧ Below W0.heap.size W0 V))
  clear h hW0 hWM hW1 hln
  go_enter Tryd.func12, Tryd.ntmps12
  go_wp2_with (at_builtin; rw [HEQ.out]; rw [← HZM.out, ← HZ.out]; refine wpList_appT W1 byteElem rfl (.tmp 5) (.tmp 13) rfl W0.heap.size (.slice (some ⟨W0.heap.size, 0, none⟩) 4 4) 4 (byteCells headBytes) rfl HO1.out (WM.heap.size + 1) (some ⟨WM.heap.size, 0, none⟩) 2 2 (byteCells (putN m 1 ++ putN s.size 1)) rfl HL2.out HS1.out (byteCells_one _) (by unfold maxLen; omega) (by omega) HB1.out.size ?_; intro A2 c2 W2 hA; have HQ2 := Lib.hid (HQ1.out W2 A2 c2 hA); clear hA; have HB2 := Lib.hid HQ2.out.2; have hcell2 := (HB2.out.cell (p := ⟨w.heap.size, 2, none⟩) (by simp; try omega)).trans H2.out)
  obtain ⟨bs2, HE2⟩ : ∃ bs, Hid (bs = headBytes ++ (putN m 1 ++ putN s.size 1)) := ⟨_, rfl⟩
  have HO2 : Hid (OwnY W2 W0.heap.size (.slice A2 6 c2) 6 bs2) := by have h := HQ2.out.1; rw [← HE2.out] at h; exact h
  clear HQ2 HQ1 HO1 HB1 HS1 HOM HBM kc HTW
  have HP2 := Lib.hid (refPut_any ((sz : Nat) : Int) 4 W2 (by omega) (by omega) (by omega) (by omega))
  rw [Int.toNat_natCast, cnt4] at HP2
  go_wp2_with fail
  refine HP2.out.mono ?_
  rintro e V2 ⟨P2, q2, rfl, hown, hbel⟩
  have HN2 := Lib.hid (OwnT.of hown)
  have HM2 := Lib.hid hbel
  clear hown hbel HP2
  have HK2 := Lib.hid (HO2.out.keep (Mod.of_below HM2.out) (fun _ _ h => h))
  have HC2 := Lib.hid (HB2.out.trans (HM2.out.mono HB2.out.size))
  have HL2 : Hid ((byteCells (putN sz 4)).length = 4) := by show _ = _; rw [byteCells_length, putN_length]
  go_wp2_with (at_builtin; refine wpList_appT _ byteElem rfl (.tmp 15) (.tmp 19) rfl W0.heap.size (.slice A2 6 c2) (6) (byteCells bs2) rfl HK2.out V2.heap.size P2 4 q2 (byteCells (putN sz 4)) rfl HL2.out HN2.out.cells (byteCells_one _) (by unfold maxLen; omega) (by omega) HC2.out.size ?_; intro A3 c3 W3 hA; have HA2 := Lib.hid hA; clear hA; have HB3 := Lib.hid (HA2.out.below HC2.out HC2.out.size (fun k hk => (HK2.out.lt k hk).1)); have hcell3 := (HB3.out.cell (p := ⟨w.heap.size, 3, none⟩) (by simp; try omega)).trans H3.out)
  obtain ⟨bs3, HE3⟩ : ∃ bs, Hid (bs = bs2 ++ putN sz 4) := ⟨_, rfl⟩
  have HO3 : Hid (OwnY W3 W0.heap.size (.slice A3 (6 + 4) c3) (6 + 4) bs3) := by have h := HA2.out.own; rw [← byteCells_append, ← HE3.out] at h; exact h
  clear HA2 HK2 HC2 HN2 HM2 HL2 HO2 HB2
  simp only [Nat.reduceAdd] at HO3 ⊢
  clear hcell2
  have HP3 := Lib.hid (refPut_any ((ar : Nat) : Int) 4 W3 (by omega) (by omega) (by omega) (by omega))
  rw [Int.toNat_natCast, cnt4] at HP3
  go_wp2_with fail
  refine HP3.out.mono ?_
  rintro e V3 ⟨P3, q3, rfl, hown, hbel⟩
  have HN3 := Lib.hid (OwnT.of hown)
  have HM3 := Lib.hid hbel
  clear hown hbel HP3
  have HK3 := Lib.hid (HO3.out.keep (Mod.of_below HM3.out) (fun _ _ h => h))
  have HC3 := Lib.hid (HB3.out.trans (HM3.out.mono HB3.out.size))
  have HL3 : Hid ((byteCells (putN ar 4)).length = 4) := by show _ = _; rw [byteCells_length, putN_length]
  go_wp2_with (at_builtin; refine wpList_appT _ byteElem rfl (.tmp 21) (.tmp 25) rfl W0.heap.size (.slice A3 10 c3) (10) (byteCells bs3) rfl HK3.out V3.heap.size P3 4 q3 (byteCells (putN ar 4)) rfl HL3.out HN3.out.cells (byteCells_one _) (by unfold maxLen; omega) (by omega) HC3.out.size ?_; intro A4 c4 W4 hA; have HA3 := Lib.hid hA; clear hA; have HB4 := Lib.hid (HA3.out.below HC3.out HC3.out.size (fun k hk => (HK3.out.lt k hk).1)); have hcell4 := (HB4.out.cell (p := ⟨w.heap.size, 4, none⟩) (by simp; try omega)).trans H4.out)
  obtain ⟨bs4, HE4⟩ : ∃ bs, Hid (bs = bs3 ++ putN ar 4) := ⟨_, rfl⟩
  have HO4 : Hid (OwnY W4 W0.heap.size (.slice A4 (10 + 4) c4) (10 + 4) bs4) := by have h := HA3.out.own; rw [← byteCells_append, ← HE4.out] at h; exact h
  clear HA3 HK3 HC3 HN3 HM3 HL3 HO3 HB3
  simp only [Nat.reduceAdd] at HO4 ⊢
  clear hcell3
  have HP4 := Lib.hid (refPut_any ((su : Nat) : Int) 4 W4 (by omega) (by omega) (by omega) (by omega))
  rw [Int.toNat_natCast, cnt4] at HP4
  go_wp2_with fail
  refine HP4.out.mono ?_
  rintro e V4 ⟨P4, q4, rfl, hown, hbel⟩
  have HN4 := Lib.hid (OwnT.of hown)
  have HM4 := Lib.hid hbel
  clear hown hbel HP4
  have HK4 := Lib.hid (HO4.out.keep (Mod.of_below HM4.out) (fun _ _ h => h))
  have HC4 := Lib.hid (HB4.out.trans (HM4.out.mono HB4.out.size))
  have HL4 : Hid ((byteCells (putN su 4)).length = 4) := by show _ = _; rw [byteCells_length, putN_length]
  have HQ5 := Lib.hid (fun (W5 : World) (A5 : Option Addr) (c5 : Nat) (bs5 : List UInt8) (h5 : OwnY W5 W0.heap.size (.slice A5 18 c5) 18 bs5) (hb5 : Below W0.heap.size W0 W5) (V : World) (A : Option Addr) (k : Nat) (HA : AppT W5 W0.heap.size 5 (.slice A5 18 c5) (18 + s.size) (byteCells bs5 ++ byteCells s.data.toList) V (.slice A (18 + s.size) k)) =>
    (⟨by have h := HA.own; rw [← byteCells_append] at h; exact h, HA.below hb5 hb5.size (fun k hk => (h5.lt k hk).1)⟩ : OwnY V W0.heap.size (.slice A (18 + s.size) k) (18 + s.size) (bs5 ++ s.data.toList) ∧ Below W0.heap.size W0 V))
  have HSM := Lib.hid (fun (W6 : World) (A6 : Option Addr) (k6 : Nat) (bs6 : List UInt8) (h : OwnY W6 W0.heap.size (.slice A6 (18 + s.size) k6) (18 + s.size) bs6) => summed_any A6 (18 + s.size) k6 bs6 W6 (by have g := h.1; rwa [byteCells_length] at g) (by omega) h.cells)
  go_wp2_with (first
    | (at_builtin; refine wpList_appT _ byteElem rfl (.tmp 27) (.tmp 30) rfl W0.heap.size (.slice A4 14 c4) (14) (byteCells bs4) rfl HK4.out V4.heap.size P4 4 q4 (byteCells (putN su 4)) rfl HL4.out HN4.out.cells (byteCells_one _) (by unfold maxLen; omega) (by omega) HC4.out.size ?_; intro A5 c5 W5 hA; have HA4 := Lib.hid hA; clear hA; have HB5 := Lib.hid (HA4.out.below HC4.out HC4.out.size (fun k hk => (HK4.out.lt k hk).1)); obtain ⟨bs5, HE5⟩ : ∃ bs, Hid (bs = bs4 ++ putN su 4) := ⟨_, rfl⟩; have HO5 : Hid (OwnY W5 W0.heap.size (.slice A5 (14 + 4) c5) (14 + 4) bs5) := (by have h := HA4.out.own; rw [← byteCells_append, ← HE5.out] at h; exact h); clear HA4 HK4 HC4 HN4 HM4 HL4 HO4 HB4; simp only [Nat.reduceAdd] at HO5; have hcell6 := (HB5.out.cell (p := ⟨w.heap.size, 1, none⟩) (by simp; try omega)).trans H1.out)
    | (at_builtin; refine wpList_appT_string _ byteElem Tryd.underlying9 rfl (.tmp 32) (.tmp 34) rfl W0.heap.size (.slice A5 18 c5) 18 (byteCells bs5) rfl HO5.out s rfl (by unfold maxLen; omega) (by omega) HB5.out.size ?_; intro A6 c6 W6 hA; have HQ6 := Lib.hid (HQ5.out W5 A5 c5 bs5 HO5.out HB5.out W6 A6 c6 hA); clear hA)
    | (go_at_call 22; refine (HSM.out _ _ _ _ HQ6.out.1).mono ?_; rintro x V ⟨P, q, rfl, hown, hbel⟩; have HOV := Lib.hid hown; have HBV := Lib.hid hbel; clear hown hbel))
  go_ret
  have hz := HZ.out
  have hk := HQ6.out.2.size
  have h := HOV.out.le (base' := w.heap.size) (by omega)
  rw [HE5.out, HE4.out, HE3.out, HE2.out, ← HDF.out] at h
  rw [show 18 + s.size + 4 = 22 + s.size by omega] at h ⊢
  exact ⟨P, q, rfl, h, HF.out.trans ((HQ6.out.2.mono (by omega)).trans (HBV.out.mono (by omega)))⟩
end Go.Proofs.YtkhmcaoabfifcaaDoor
