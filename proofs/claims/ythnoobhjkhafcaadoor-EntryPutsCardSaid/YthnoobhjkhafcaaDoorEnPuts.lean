/- Layer 19: EntryPuts walked. -/
import Derived.Test.YthnoobhjkhafcaaDoorEnV
import Derived.Test.YthnoobhjkhafcaaDoorEnRp
import Derived.Test.YthnoobhjkhafcaaDoorEnAR
namespace Go.Proofs.YthnoobhjkhafcaaDoor
open Go.RowKit CrcP FieldP

set_option maxRecDepth 100000 in
set_option maxHeartbeats 8000000 in
theorem enputs_no (A : Option Addr) (l c : Nat) (ms : List LM) (w : World) (hW : WidE w) (hl : ms.length = l) (hok : ∀ m ∈ ms, m.Ok) (hb : Cells w w.heap.size A (ms.map LM.cells).flatten) (ha : allB ms = false) :
    Calls Tryd.prog 3 #[.slice A l c] w fun e w' => e = .returned (.bool true) ∧ Below w.heap.size w w' := by
  have HW := Lib.hid hW
  have hw0 := hW.1
  have HG := Lib.hid (great19_any A l c ms w.heap.size w hl hb)
  have HLV := Lib.hid (fun W (h : Below w.heap.size w W) => lives19_any W (hW.below h hw0 (by have := h.size; omega)))
  have HC := Lib.hid hb
  have HBC : Hid (∀ W, Below w.heap.size w W → Cells W w.heap.size A (ms.map LM.cells).flatten) := fun W h => hb.below h (Nat.le_refl _)
  have HRA := Lib.hid (fun W (h : Below w.heap.size w W) hm => refEnAll_any A l c ms w.heap.size W hl hm hok (HBC.out W h) h.size)
  have HEA := Lib.hid (fun W (h : Below w.heap.size w W) => enAll_any A l c ms w.heap.size W hl hok (HBC.out W h) h.size)
  have HPT := Lib.hid (fun W (h : Below w.heap.size w W) => enPut_no A l c ms w.heap.size W hl hok (HBC.out W h) h.size ha)
  have HNM := Lib.hid (fun W (h : Below w.heap.size w W) hm => enNames_any A l c ms w.heap.size W hl hm (HBC.out W h) h.size)
  have HLE := Lib.hid (fun W (h : Below w.heap.size w W) hm hr => enLen_any A l c ms w.heap.size W hl hm hr (HBC.out W h) h.size)
  have HFL := Lib.hid (mems_len ms)
  have HSM := Lib.hid (rowsM_cut ms)
  have HL := Lib.hid hl
  have HOK := Lib.hid hok
  rw [ha] at HRA HEA
  clear hW hb hl hok ha
  go_enter Tryd.func3, Tryd.ntmps3
  go_wp2_with fail
  refine HG.out.mono ?_
  rintro e w' ⟨o1, rfl, rfl, hn1⟩
  cases o1 with
  | true =>
    clear hn1
    go_wp2_with (go_at_call 8; refine (HLV.out _ (Below.refl _ _)).mono ?_; rintro e w6 ⟨rfl, hb⟩; have HB6 := Lib.hid hb; clear hb)
    go_ret
    exact ⟨rfl, HB6.out⟩
  | false =>
  obtain ⟨hm250, hm200⟩ := hn1 rfl
  rw [HL.out] at hm250
  have hrw := rowsM_le hm200
  rw [HL.out] at hrw
  have hrows : rowsM ms ≤ 1099511627776 := by have : l * (18 + 200) ≤ 250 * 218 := Nat.mul_le_mul hm250 (Nat.le_refl _); omega
  clear hn1 hm200 hrw
  go_wp2_with fail
  refine (HRA.out _ (Below.refl _ _) (by omega)).mono ?_
  rintro e w1 ⟨rfl, hb1⟩
  have HB1 := Lib.hid hb1
  clear hb1
  go_wp2_with fail
  refine (HPT.out _ HB1.out).mono ?_
  rintro e w2 ⟨rfl, hb2⟩
  have HB2 := Lib.hid (HB1.out.trans (hb2.mono HB1.out.size))
  clear hb2
  go_wp2_with fail
  refine (HNM.out _ HB2.out (by omega)).mono ?_
  rintro e w3 ⟨An, cn, rfl, hon, hb3⟩
  have HB3 := Lib.hid (HB2.out.trans (hb3.mono HB2.out.size))
  have HCN := Lib.hid (cells_of_own7 hon)
  clear hon hb3
  go_wp2_with fail
  refine (HEA.out _ HB3.out).mono ?_
  rintro e w4 ⟨rfl, hb4⟩
  have HB4 := Lib.hid (HB3.out.trans (hb4.mono HB3.out.size))
  have HCN4 := Lib.hid (HCN.out.below hb4 (Nat.le_refl _))
  have hz34 := hb4.size
  clear hb4 HCN
  go_wp2_with fail
  go_loopg [7, 8] l (fun gk v i wr => ∃ k : Nat, k + gk = l ∧ i = .int .i64 k ∧ v = .int .i64 (rowsM (ms.take k) : Nat) ∧ Below w4.heap.size w4 wr)
  case atStart => exact ⟨0, by omega, rfl, rfl, Below.refl _ _⟩
  case round =>
    obtain ⟨k, hk, rfl, rfl, hbel⟩ := hrel
    have HBL := Lib.hid (HB4.out.trans (hbel.mono HB4.out.size))
    have HBR := Lib.hid hbel
    clear hbel
    by_cases h : k < l
    · obtain ⟨m, hx⟩ : ∃ x, ms[k]? = some x := ⟨_, List.getElem?_eq_getElem (by have := HL.out; omega)⟩
      obtain ⟨b, o, rfl, hbB, hc⟩ := HC.out (by rw [HFL.out, HL.out]; omega)
      obtain ⟨bn, on, rfl, hbN, hcn⟩ := HCN4.out (by unfold nameCells; rw [List.length_map, HL.out]; omega)
      have hnc := hcn k (.string m.nm) (by unfold nameCells; rw [List.getElem?_map, hx]; rfl)
      have HX := Lib.hid hx
      have HOKm := Lib.hid (HOK.out m (List.mem_of_getElem? hx))
      have HS1 := Lib.hid (rowsM_take hx)
      have h1 := HSM.out (k + 1)
      rw [HS1.out] at h1
      have HM0 : Hid (∀ W, Below wr.heap.size wr W → MemAt W b (o + k * 7) m) := fun W hW => mem_at hbB hc (HBL.out.trans (hW.mono HBL.out.size)) hx
      have HN0 : Hid (∀ W, Below wr.heap.size wr W → W.cell? ⟨bn, on + k, none⟩ = some (.string m.nm)) := fun W hW => ((HBR.out.trans (hW.mono HBR.out.size)).cell (p := ⟨bn, on + k, none⟩) (by show bn < _; omega)).trans hnc
      clear hc hx hcn hnc
      go_wp2_with fail
      obtain ⟨ι, f, n0, hf0, hfb, hfu⟩ := below_class wr
      have HFU := Lib.hid hfu
      have HFB := Lib.hid hfb
      have HMY := Lib.hid (fun n => HM0.out (f n) (HFB.out n))
      have y0 := fun n => (HMY.out n).c0
      have y1 := fun n => (HMY.out n).c1
      have y2 := fun n => (HMY.out n).c2
      have y3 := fun n => (HMY.out n).c3
      have y4 := fun n => (HMY.out n).c4
      have y5 := fun n => (HMY.out n).c5
      have y6 := fun n => (HMY.out n).c6
      have z0 := fun n => HN0.out (f n) (HFB.out n)
      haveI : Nonempty ι := ⟨n0⟩
      clear hfb hfu
      have HRT := Lib.hid (fun W => enRight_any m.nm m.at_ m.fr m.ar m.sz m.su m.me W HOKm.out.1)
      have HRF := Lib.hid (fun W => refEn_any m.nm m.at_ m.fr m.ar m.sz m.su m.me W HOKm.out.1 HOKm.out.2.1 HOKm.out.2.2.1)
      obtain ⟨mb, hmb⟩ : ∃ mb, memB m.nm m.at_ m.fr m.ar m.sz m.me = mb := ⟨_, rfl⟩
      rw [hmb] at HRT HRF
      clear hmb
      refine region_quiet_f f n0 hf0 (by kernel_rfl) (by kernel_rfl) ?_
      repeat (go_big_quiet_step (first | (go_at_call 13; exact quiet_f HFU.out (HRT.out _)) | (go_at_call 14; exact quiet_f HFU.out (HRF.out _))))
      refine wpQuiet_nil ?_
      rintro _ ⟨nq, rfl⟩
      have HBQ := Lib.hid (HBR.out.trans ((HFB.out nq).mono HBR.out.size))
      have x0 := y0 nq
      clear HMY y0 y1 y2 y3 y4 y5 y6 z0 HFB HFU hf0
      generalize f nq = w5 at *
      go_wp2
      go_roundg (gk - 1)
      case measure => omega
      case rel => exact ⟨k + 1, by omega, by go_num, by rw [HS1.out]; go_num, HBQ.out⟩
    · obtain rfl : k = l := by omega
      have HK : Hid (rowsM (ms.take k) = rowsM ms) := by show _ = _; rw [List.take_of_length_le (by have := HL.out; omega)]
      rw [HK.out]
      go_wp2_with fail
      refine (HLE.out _ HBL.out (by omega) hrows).mono ?_
      rintro e w6 ⟨rfl, hb6⟩
      have HB6 := Lib.hid (HBL.out.trans (hb6.mono HBL.out.size))
      clear hb6
      go_wp2_with (go_at_call 8; refine (HLV.out _ HB6.out).mono ?_; rintro e w7 ⟨rfl, hb⟩; have HB7 := Lib.hid (HB6.out.trans (hb.mono HB6.out.size)); clear hb)
      go_ret
      exact ⟨rfl, HB7.out⟩

set_option maxRecDepth 100000 in
set_option maxHeartbeats 8000000 in
theorem enputs_yes (A : Option Addr) (l c : Nat) (ms : List LM) (w : World) (hW : WidE w) (hl : ms.length = l) (hok : ∀ m ∈ ms, m.Ok) (hb : Cells w w.heap.size A (ms.map LM.cells).flatten) (ha : allB ms = true) :
    Calls Tryd.prog 3 #[.slice A l c] w fun e w' => e = .returned (.bool true) ∧ Below w.heap.size w w' := by
  have HW := Lib.hid hW
  have hw0 := hW.1
  have HG := Lib.hid (great19_any A l c ms w.heap.size w hl hb)
  have HLV := Lib.hid (fun W (h : Below w.heap.size w W) => lives19_any W (hW.below h hw0 (by have := h.size; omega)))
  have HC := Lib.hid hb
  have HBC : Hid (∀ W, Below w.heap.size w W → Cells W w.heap.size A (ms.map LM.cells).flatten) := fun W h => hb.below h (Nat.le_refl _)
  have HRA := Lib.hid (fun W (h : Below w.heap.size w W) hm => refEnAll_any A l c ms w.heap.size W hl hm hok (HBC.out W h) h.size)
  have HEA := Lib.hid (fun W (h : Below w.heap.size w W) => enAll_any A l c ms w.heap.size W hl hok (HBC.out W h) h.size)
  have HPT := Lib.hid (fun W (h : Below w.heap.size w W) => enPut_yes A l c ms w.heap.size W (hW.below h hw0 (by have := h.size; omega)) hl hok (HBC.out W h) h.size ha)
  have HNM := Lib.hid (fun W (h : Below w.heap.size w W) hm => enNames_any A l c ms w.heap.size W hl hm (HBC.out W h) h.size)
  have HLE := Lib.hid (fun W (h : Below w.heap.size w W) hm hr => enLen_any A l c ms w.heap.size W hl hm hr (HBC.out W h) h.size)
  have HRP := Lib.hid (fun W (h : Below w.heap.size w W) => refEnPut_any A l c ms w.heap.size W hl hok (HBC.out W h) h.size ha)
  have HFL := Lib.hid (mems_len ms)
  have HSM := Lib.hid (rowsM_cut ms)
  have HL := Lib.hid hl
  have HOK := Lib.hid hok
  rw [ha] at HRA HEA
  clear hW hb hl hok ha
  go_enter Tryd.func3, Tryd.ntmps3
  go_wp2_with fail
  refine HG.out.mono ?_
  rintro e w' ⟨o1, rfl, rfl, hn1⟩
  cases o1 with
  | true =>
    clear hn1
    go_wp2_with (go_at_call 8; refine (HLV.out _ (Below.refl _ _)).mono ?_; rintro e w6 ⟨rfl, hb⟩; have HB6 := Lib.hid hb; clear hb)
    go_ret
    exact ⟨rfl, HB6.out⟩
  | false =>
  obtain ⟨hm250, hm200⟩ := hn1 rfl
  rw [HL.out] at hm250
  have hrw := rowsM_le hm200
  rw [HL.out] at hrw
  have hrows : rowsM ms ≤ 1099511627776 := by have : l * (18 + 200) ≤ 250 * 218 := Nat.mul_le_mul hm250 (Nat.le_refl _); omega
  clear hn1 hm200 hrw
  go_wp2_with fail
  refine (HRA.out _ (Below.refl _ _) (by omega)).mono ?_
  rintro e w1 ⟨rfl, hb1⟩
  have HB1 := Lib.hid hb1
  clear hb1
  go_wp2_with fail
  refine (HPT.out _ HB1.out).mono ?_
  rintro e w2 ⟨Ab, cb, rfl, ho2, hb2⟩
  have HB2 := Lib.hid (HB1.out.trans (hb2.mono HB1.out.size))
  have HO2 := Lib.hid ho2
  clear hb2 ho2
  go_wp2_with fail
  refine (HNM.out _ HB2.out (by omega)).mono ?_
  rintro e w3 ⟨An, cn, rfl, hon, hb3⟩
  have HB3 := Lib.hid (HB2.out.trans (hb3.mono HB2.out.size))
  have HCN := Lib.hid (cells_of_own7 hon)
  have HO3 := Lib.hid (HO2.out.keep (Mod.of_below hb3) (fun _ _ h => h))
  clear hon hb3
  go_wp2_with fail
  refine (HEA.out _ HB3.out).mono ?_
  rintro e w4 ⟨rfl, hb4⟩
  have HB4 := Lib.hid (HB3.out.trans (hb4.mono HB3.out.size))
  have HCN4 := Lib.hid (HCN.out.below hb4 (Nat.le_refl _))
  have hz34 := hb4.size
  have HO4 := Lib.hid (HO3.out.keep (Mod.of_below hb4) (fun _ _ h => h))
  clear hb4 HCN
  go_wp2_with fail
  go_loopg [7, 8] l (fun gk v i wr => ∃ k : Nat, k + gk = l ∧ i = .int .i64 k ∧ v = .int .i64 (rowsM (ms.take k) : Nat) ∧ Below w4.heap.size w4 wr)
  case atStart => exact ⟨0, by omega, rfl, rfl, Below.refl _ _⟩
  case round =>
    obtain ⟨k, hk, rfl, rfl, hbel⟩ := hrel
    have HBL := Lib.hid (HB4.out.trans (hbel.mono HB4.out.size))
    have HBR := Lib.hid hbel
    clear hbel
    by_cases h : k < l
    · obtain ⟨m, hx⟩ : ∃ x, ms[k]? = some x := ⟨_, List.getElem?_eq_getElem (by have := HL.out; omega)⟩
      obtain ⟨b, o, rfl, hbB, hc⟩ := HC.out (by rw [HFL.out, HL.out]; omega)
      obtain ⟨bn, on, rfl, hbN, hcn⟩ := HCN4.out (by unfold nameCells; rw [List.length_map, HL.out]; omega)
      have hnc := hcn k (.string m.nm) (by unfold nameCells; rw [List.getElem?_map, hx]; rfl)
      have HX := Lib.hid hx
      have HOKm := Lib.hid (HOK.out m (List.mem_of_getElem? hx))
      have HS1 := Lib.hid (rowsM_take hx)
      have h1 := HSM.out (k + 1)
      rw [HS1.out] at h1
      have HM0 : Hid (∀ W, Below wr.heap.size wr W → MemAt W b (o + k * 7) m) := fun W hW => mem_at hbB hc (HBL.out.trans (hW.mono HBL.out.size)) hx
      have HN0 : Hid (∀ W, Below wr.heap.size wr W → W.cell? ⟨bn, on + k, none⟩ = some (.string m.nm)) := fun W hW => ((HBR.out.trans (hW.mono HBR.out.size)).cell (p := ⟨bn, on + k, none⟩) (by show bn < _; omega)).trans hnc
      clear hc hx hcn hnc
      go_wp2_with fail
      obtain ⟨ι, f, n0, hf0, hfb, hfu⟩ := below_class wr
      have HFU := Lib.hid hfu
      have HFB := Lib.hid hfb
      have HMY := Lib.hid (fun n => HM0.out (f n) (HFB.out n))
      have y0 := fun n => (HMY.out n).c0
      have y1 := fun n => (HMY.out n).c1
      have y2 := fun n => (HMY.out n).c2
      have y3 := fun n => (HMY.out n).c3
      have y4 := fun n => (HMY.out n).c4
      have y5 := fun n => (HMY.out n).c5
      have y6 := fun n => (HMY.out n).c6
      have z0 := fun n => HN0.out (f n) (HFB.out n)
      haveI : Nonempty ι := ⟨n0⟩
      clear hfb hfu
      have HRT := Lib.hid (fun W => enRight_any m.nm m.at_ m.fr m.ar m.sz m.su m.me W HOKm.out.1)
      have HRF := Lib.hid (fun W => refEn_any m.nm m.at_ m.fr m.ar m.sz m.su m.me W HOKm.out.1 HOKm.out.2.1 HOKm.out.2.2.1)
      obtain ⟨mb, hmb⟩ : ∃ mb, memB m.nm m.at_ m.fr m.ar m.sz m.me = mb := ⟨_, rfl⟩
      rw [hmb] at HRT HRF
      clear hmb
      refine region_quiet_f f n0 hf0 (by kernel_rfl) (by kernel_rfl) ?_
      repeat (go_big_quiet_step (first | (go_at_call 13; exact quiet_f HFU.out (HRT.out _)) | (go_at_call 14; exact quiet_f HFU.out (HRF.out _))))
      refine wpQuiet_nil ?_
      rintro _ ⟨nq, rfl⟩
      have HBQ := Lib.hid (HBR.out.trans ((HFB.out nq).mono HBR.out.size))
      have x0 := y0 nq
      clear HMY y0 y1 y2 y3 y4 y5 y6 z0 HFB HFU hf0
      generalize f nq = w5 at *
      go_wp2
      go_roundg (gk - 1)
      case measure => omega
      case rel => exact ⟨k + 1, by omega, by go_num, by rw [HS1.out]; go_num, HBQ.out⟩
    · obtain rfl : k = l := by omega
      have HK : Hid (rowsM (ms.take k) = rowsM ms) := by show _ = _; rw [List.take_of_length_le (by have := HL.out; omega)]
      rw [HK.out]
      go_wp2_with fail
      refine (HLE.out _ HBL.out (by omega) hrows).mono ?_
      rintro e w6 ⟨rfl, hb6⟩
      have HB6 := Lib.hid (HBL.out.trans (hb6.mono HBL.out.size))
      have HO6 := Lib.hid ((HO4.out.keep (Mod.of_below HBR.out) (fun _ _ h => h)).keep (Mod.of_below hb6) (fun _ _ h => h))
      clear hb6
      obtain ⟨T, hT⟩ : ∃ T : ByteArray, (⟨(dirB ms).toArray⟩ : ByteArray) = T := ⟨_, rfl⟩
      have hDL : (dirB ms).length = rowsM ms := dirB_length ms
      have HCV : Hid (∀ (W : World) (A : Option Addr) (c' B : Nat), Cells W B A (byteCells (dirB ms)) → (convert 25 9 (.slice A (rowsM ms) c')).run Tryd.prog W = .ok (.string T) W) := fun W A c' B h => by rw [← hT]; exact run_string_of 25 9 5 Tryd.underlying25 Tryd.underlying5 Tryd.underlying9 h hDL
      clear hT hDL
      generalize rowsM ms = R at *
      have HBd : Hid (Below w.heap.size w w6.drew) := ⟨HB6.out.os, HB6.out.tape, HB6.out.output, HB6.out.size, HB6.out.block⟩
      have HOd : Hid (OwnY w6.drew w1.heap.size (.slice Ab R cb) R (dirB ms)) := HO6.out
      have HRW := Lib.hid (HRP.out w6.drew HBd.out)
      have k1 := HCV.out w6.drew Ab cb _ HO6.out.cells
      go_wp2_with fail
      go_region_with (first
        | (go_at_call 16; ((with_reducible refine HRW.out.mono ?_); rintro e w7 ⟨A7, c7, rfl, ho7, hb7⟩; have HB7 : Hid (Below w.heap.size w w7) := HBd.out.trans (hb7.mono HBd.out.size); have k2 := HCV.out w7 A7 c7 _ ho7.cells; have k3 := HCV.out w7 Ab cb _ (OwnT.keep HOd.out (Mod.of_below hb7) (fun _ _ h => h)).cells; clear ho7 hb7))
        | (go_at_call 8; ((with_reducible refine (HLV.out _ HB7.out).mono ?_); rintro e w8 ⟨rfl, hb⟩; have HB8 := Lib.hid (HB7.out.trans (hb.mono HB7.out.size)); clear hb)))
      all_goals
        go_wp2
        go_ret
        exact ⟨rfl, HB8.out⟩

theorem enputs_all (A : Option Addr) (l c : Nat) (ms : List LM) (w : World) (hW : WidE w) (hl : ms.length = l) (hok : ∀ m ∈ ms, m.Ok) (hb : Cells w w.heap.size A (ms.map LM.cells).flatten) :
    Calls Tryd.prog 3 #[.slice A l c] w fun e w' => e = .returned (.bool true) ∧ Below w.heap.size w w' := by
  cases ha : allB ms with
  | false => exact enputs_no A l c ms w hW hl hok hb ha
  | true => exact enputs_yes A l c ms w hW hl hok hb ha
end Go.Proofs.YthnoobhjkhafcaaDoor
