/- Layer 20: FootBack walked. -/
import Derived.Test.YthnoobhjkhafcaaDoorFtPl
import Derived.Test.YthnoobhjkhafcaaDoorEnE
import Derived.Test.YthnoobhjkhafcaaDoorEnL
namespace Go.Proofs.YthnoobhjkhafcaaDoor
open Go.RowKit CrcP FieldP

set_option maxRecDepth 100000 in
set_option maxHeartbeats 8000000 in
theorem ftback_any (A : Option Addr) (l c : Nat) (ms : List LM) (C : Option Addr) (lb cc : Nat) (bs : List UInt8) (w : World) (hW : WidE w) (hl : ms.length = l) (hok : ∀ m ∈ ms, m.Ok) (hb : Cells w w.heap.size A (ms.map LM.cells).flatten)
    (hlb : bs.length = lb) (hlc : lb ≤ cc) (hb2 : Bytes w w.heap.size C bs) :
    Calls Tryd.prog 5 #[.slice A l c, .slice C lb cc] w fun e w' => e = .returned (.bool true) ∧ Below w.heap.size w w' := by
  have hz := (zero_of_info tableInfo).1
  have HSZ := Lib.hid tableSize
  have hw0 := hW.1
  have HWI : Hid (∀ W, Below w.heap.size w W → WidE W) := fun W h => hW.below h hw0 (by have := h.size; omega)
  have HG := Lib.hid (great20_any A l c ms w.heap.size w hl hb)
  have HBC : Hid (∀ W, Below w.heap.size w W → Cells W w.heap.size A (ms.map LM.cells).flatten) := fun W h => hb.below h (Nat.le_refl _)
  have HBY : Hid (∀ W, Below w.heap.size w W → Bytes W w.heap.size C bs) := fun W h => hb2.below h (Nat.le_refl _)
  have HL := Lib.hid hl
  have HLB := Lib.hid hlb
  have HOK := Lib.hid hok
  clear hW hb hb2 hl hok
  by_cases h3 : 3000 < lb
  · have hd : decide ((3000 : Int) < (lb : Int)) = true := by simp; omega
    clear h3
    go_enter Tryd.func5, Tryd.ntmps5
    go_wp2_with fail
    refine HG.out.mono ?_
    rintro e w' ⟨o1, rfl, rfl, _⟩
    cases o1 with
    | true =>
      go_wp2_with (go_at_call 20; refine (lives_any _).mono ?_; rintro e w6 ⟨rfl, hb⟩; have HB6 := Lib.hid hb; clear hb)
      go_ret
      exact ⟨rfl, HB6.out⟩
    | false =>
      go_wp2_with (go_at_call 20; refine (lives_any _).mono ?_; rintro e w6 ⟨rfl, hb⟩; have HB6 := Lib.hid hb; clear hb)
      go_ret
      exact ⟨rfl, HB6.out⟩
  have hd : decide ((3000 : Int) < (lb : Int)) = false := by simp; omega
  obtain ⟨T, hT⟩ : ∃ T : ByteArray, (⟨bs.toArray⟩ : ByteArray) = T := ⟨_, rfl⟩
  have HCV : Hid (∀ (W : World) (A : Option Addr) (c' B : Nat), Cells W B A (byteCells bs) → (convert 25 9 (.slice A lb c')).run Tryd.prog W = .ok (.string T) W) := fun W A c' B h => by rw [← hT]; exact run_string_of 25 9 5 Tryd.underlying25 Tryd.underlying5 Tryd.underlying9 h hlb
  have HRB := Lib.hid (fun W tg (h1 : Table W tg) (h : Below w.heap.size w W) => fread_any tg C lb cc bs w.heap.size W h1 (HWI.out W h) hlb (by omega) hlc (HBY.out W h) h.size)
  have hm3 : lb ≤ 3000 := by omega
  clear hT hlb h3
  go_enter Tryd.func5, Tryd.ntmps5
  go_wp2_with fail
  refine HG.out.mono ?_
  rintro e w' ⟨o1, rfl, rfl, hn1⟩
  cases o1 with
  | true =>
    clear hn1
    go_wp2_with (go_at_call 20; refine (lives_any _).mono ?_; rintro e w6 ⟨rfl, hb⟩; have HB6 := Lib.hid hb; clear hb)
    go_ret
    exact ⟨rfl, HB6.out⟩
  | false =>
    have hm250 := (hn1 rfl).1
    rw [HL.out] at hm250
    clear hn1
    go_wp2_with fail
    refine (make_any _).mono ?_
    rintro e w1 ⟨rfl, hb⟩
    have HGT := Lib.hid (heap_alloc_last w1 (.cells (Array.replicate 256 (.int .u32 0)) 39))
    have HB := Lib.hid hb
    clear hb
    go_wp2_with (refine wpList_store_row rfl 39 _ _ rfl w1.heap.size tabCells rfl rfl 39 _ HGT.out HSZ.out (by rw [Array.size_replicate, tabCells_size]) tabCells_one ?_; rw [World.setRow_alloc_new])
    have HTB := Lib.hid (table_new w1)
    have HB2 := Lib.hid (HB.out.alloc HB.out.size (.cells tabCells 39))
    generalize w1.alloc (.cells tabCells 39) = w2 at *
    clear hz HGT HSZ
    cases ha : allB ms with
    | false =>
      refine (fwrite_no w1.heap.size A l c ms w.heap.size w2 HL.out HOK.out (HBC.out w2 HB2.out) HB2.out.size ha).mono ?_
      rintro e WW ⟨rfl, hb3⟩
      have HBW := Lib.hid (HB2.out.trans (hb3.mono HB2.out.size))
      have HTW := Lib.hid (HTB.out.below hb3 HTB.out.lt)
      clear hb3 ha
      replace HRB : Hid (∀ W, Table W w1.heap.size → Below w.heap.size w W → _) := fun W h1 h2 => HRB.out W _ h1 h2
      -- the bytes that came in
      go_wp2_with fail
      refine (HRB.out WW HTW.out HBW.out).mono ?_
      rintro e w8 ⟨hb8, h8⟩
      have HB8 := Lib.hid (HBW.out.trans (hb8.mono HBW.out.size))
      have HT8 := Lib.hid (HTW.out.below hb8 HTW.out.lt)
      clear hb8
      rcases h8 with ⟨hr0, A8, c8, rfl, ho8⟩ | ⟨hrn, rfl⟩
      · obtain ⟨ka, kf⟩ := foot_taken hr0
        have hkl := rdL_length (bs.take (bs.length - 20)) ⟨0, false⟩ (ftN bs 0)
        have HWR := Lib.hid (fwrite_yes w1.heap.size A8 (ftN bs 0) c8 (rdL (bs.take (bs.length - 20)) ⟨0, false⟩ (ftN bs 0)) w8.heap.size w8 HT8.out (HWI.out w8 HB8.out) hkl (rdL_ok (by rw [List.length_take, HLB.out]; omega) _) (cells_of_own7 ho8) (Nat.le_refl _) ka)
        have hfl := footAll_length (rdL (bs.take (bs.length - 20)) ⟨0, false⟩ (ftN bs 0))
        rw [kf] at hfl
        have hfl' := hfl.symm.trans HLB.out
        rw [kf, hfl'] at HWR
        clear ka kf hkl ho8 hr0 hfl hfl'
        generalize ftN bs 0 = n8 at *
        go_wp2_with fail
        refine HWR.out.mono ?_
        rintro e w9 ⟨A9, c9, rfl, ho9, hb9⟩
        have HB9 := Lib.hid (HB8.out.trans (hb9.mono HB8.out.size))
        have k1 := HCV.out w9 A9 c9 _ ho9.cells
        have k2 := HCV.out w9 C cc _ (HBY.out w9 HB9.out)
        clear ho9 hb9
        go_wp2_with (go_at_call 20; refine (lives_any _).mono ?_; rintro e w10 ⟨rfl, hb⟩; have HB10 := Lib.hid (HB9.out.trans (hb.mono HB9.out.size)); clear hb)
        go_ret
        exact ⟨rfl, HB10.out⟩
      · have hne : (((rdR bs : Nat) : Int) != 0) = true := by simp; omega
        clear hrn
        go_wp2_with (go_at_call 20; refine (lives_any _).mono ?_; rintro e w10 ⟨rfl, hb⟩; have HB10 := Lib.hid (HB8.out.trans (hb.mono HB8.out.size)); clear hb)
        go_ret
        exact ⟨rfl, HB10.out⟩
    | true =>
      refine (fwrite_yes w1.heap.size A l c ms w.heap.size w2 HTB.out (HWI.out w2 HB2.out) HL.out HOK.out (HBC.out w2 HB2.out) HB2.out.size ha).mono ?_
      rintro e w3 ⟨A3, c3, rfl, ho3, hb3⟩
      have HB3 := Lib.hid (HB2.out.trans (hb3.mono HB2.out.size))
      have HT3 := Lib.hid (HTB.out.below hb3 HTB.out.lt)
      obtain ⟨f1, f2, f3⟩ := foot_back ha HOK.out
      have hfl := footAll_length ms
      have hrs : rowsM ms ≤ 16400 := by
        obtain ⟨q1, q2⟩ := dir_small ha
        have q3 := rowsM_le q2
        have : ms.length * (18 + 64) ≤ 200 * 82 := Nat.mul_le_mul q1 (Nat.le_refl _)
        omega
      have HRW := Lib.hid (fread_any w1.heap.size A3 (rowsM ms + 20) c3 (footAll ms) w3.heap.size w3 HT3.out (HWI.out w3 HB3.out) hfl (by omega) (own_cap ho3) ho3.cells (Nat.le_refl _))
      rw [f2] at HRW
      rw [f3] at HRW
      have HF1 := Lib.hid f1
      clear ho3 hb3 ha f1 f2 f3 hfl hrs
      go_wp2_with fail
      refine HRW.out.mono ?_
      rintro e w4 ⟨hb4, h4⟩
      rcases h4 with ⟨_, A4, c4, rfl, ho4⟩ | ⟨hrn, _⟩
      · have HB4 := Lib.hid (HB3.out.trans (hb4.mono HB3.out.size))
        have HT4 := Lib.hid (HT3.out.below hb4 HT3.out.lt)
        have hml : ms.length = l := HL.out
        rw [hml] at ho4
        have HSM := Lib.hid (refSame_any A4 l c4 ms A l c ms w4.heap.size w4 HL.out HL.out (by omega) (cells_of_own7 ho4) ((HBC.out w4 HB4.out).more HB4.out.size))
        rw [eqL_refl] at HSM
        clear ho4 hb4 hml
        go_wp2_with fail
        rw [HL.out]
        refine HSM.out.mono ?_
        rintro e w' ⟨rfl, nq, rfl⟩
        have HBW : Hid (Below w.heap.size w (w4.drewN nq)) := below_dr HB4.out nq
        have HTW : Hid (Table (w4.drewN nq) w1.heap.size) := HT4.out
        generalize w4.drewN nq = WW at *
        replace HRB : Hid (∀ W, Table W w1.heap.size → Below w.heap.size w W → _) := fun W h1 h2 => HRB.out W _ h1 h2
        -- the bytes that came in
        go_wp2_with fail
        refine (HRB.out WW HTW.out HBW.out).mono ?_
        rintro e w8 ⟨hb8, h8⟩
        have HB8 := Lib.hid (HBW.out.trans (hb8.mono HBW.out.size))
        have HT8 := Lib.hid (HTW.out.below hb8 HTW.out.lt)
        clear hb8
        rcases h8 with ⟨hr0, A8, c8, rfl, ho8⟩ | ⟨hrn, rfl⟩
        · obtain ⟨ka, kf⟩ := foot_taken hr0
          have hkl := rdL_length (bs.take (bs.length - 20)) ⟨0, false⟩ (ftN bs 0)
          have HWR := Lib.hid (fwrite_yes w1.heap.size A8 (ftN bs 0) c8 (rdL (bs.take (bs.length - 20)) ⟨0, false⟩ (ftN bs 0)) w8.heap.size w8 HT8.out (HWI.out w8 HB8.out) hkl (rdL_ok (by rw [List.length_take, HLB.out]; omega) _) (cells_of_own7 ho8) (Nat.le_refl _) ka)
          have hfl := footAll_length (rdL (bs.take (bs.length - 20)) ⟨0, false⟩ (ftN bs 0))
          rw [kf] at hfl
          have hfl' := hfl.symm.trans HLB.out
          rw [kf, hfl'] at HWR
          clear ka kf hkl ho8 hr0 hfl hfl'
          generalize ftN bs 0 = n8 at *
          go_wp2_with fail
          refine HWR.out.mono ?_
          rintro e w9 ⟨A9, c9, rfl, ho9, hb9⟩
          have HB9 := Lib.hid (HB8.out.trans (hb9.mono HB8.out.size))
          have k1 := HCV.out w9 A9 c9 _ ho9.cells
          have k2 := HCV.out w9 C cc _ (HBY.out w9 HB9.out)
          clear ho9 hb9
          go_wp2_with (go_at_call 20; refine (lives_any _).mono ?_; rintro e w10 ⟨rfl, hb⟩; have HB10 := Lib.hid (HB9.out.trans (hb.mono HB9.out.size)); clear hb)
          go_ret
          exact ⟨rfl, HB10.out⟩
        · have hne : (((rdR bs : Nat) : Int) != 0) = true := by simp; omega
          clear hrn
          go_wp2_with (go_at_call 20; refine (lives_any _).mono ?_; rintro e w10 ⟨rfl, hb⟩; have HB10 := Lib.hid (HB8.out.trans (hb.mono HB8.out.size)); clear hb)
          go_ret
          exact ⟨rfl, HB10.out⟩
      · exact absurd HF1.out hrn
end Go.Proofs.YthnoobhjkhafcaaDoor
