/- Layer 25: the law ModelMaps. -/
import Derived.Test.YtaneifmbjkolaaaDoorFiT
import Derived.Test.YtaneifmbjkolaaaDoorMdLv
namespace Go.Proofs.YtaneifmbjkolaaaDoor
open Go.RowKit

set_option maxRecDepth 100000 in
set_option maxHeartbeats 1000000 in
theorem mdmaps_any (A A2 : Option Addr) (l c l2 c2 : Nat) (fs gs : List Fi) (x : Fi) (w : World) (hl : fs.length = l) (hl2 : gs.length = l2) (hb : Files w w.heap.size A fs) (hb2 : Files w w.heap.size A2 gs) (hx : Bytes w w.heap.size x.ad x.data ∧ x.data.length ≤ x.cp) :
    Calls Tryd.prog 3 #[.slice A l c, .slice A2 l2 c2, .agg #[.string x.nm, .slice x.ad x.data.length x.cp]] w fun e w' => e = .returned (.bool true) ∧ Below w.heap.size w w' := by
  obtain ⟨W0, hW0⟩ : ∃ W0, w.alloc (.cells #[.string x.nm, .slice x.ad x.data.length x.cp] 25) = W0 := ⟨_, rfl⟩
  have HB0 : Hid (Below w.heap.size w W0) := by rw [← hW0]; exact (Below.refl _ w).alloc (Nat.le_refl _) _
  have hz0 : W0.heap.size = w.heap.size + 1 := by rw [← hW0, World.size_alloc]
  have HX0 : Hid (∀ W, Below W0.heap.size W0 W → W.cell? ⟨w.heap.size, 0, none⟩ = some (.string x.nm) ∧ W.cell? ⟨w.heap.size, 1, none⟩ = some (.slice x.ad x.data.length x.cp)) := fun W hW => by
    have h0 : W0.heap[w.heap.size]? = some (.cells #[.string x.nm, .slice x.ad x.data.length x.cp] 25 (0, 0)) := by rw [← hW0]; exact heap_alloc_new w _
    have h := (hW.block w.heap.size (by omega)).trans h0
    exact ⟨cell_of_row _ _ _ _ _ _ h, cell_of_row _ _ _ _ _ _ h⟩
  have HF := Lib.hid ((hb.below HB0.out (Nat.le_refl _)).more HB0.out.size)
  have HG := Lib.hid ((hb2.below HB0.out (Nat.le_refl _)).more HB0.out.size)
  have HXB := Lib.hid (show Bytes W0 W0.heap.size x.ad x.data from (hx.1.below HB0.out (Nat.le_refl _)).more HB0.out.size)
  have HXC := Lib.hid hx.2
  have HL := Lib.hid hl
  have HL2 := Lib.hid hl2
  obtain ⟨b0, b1⟩ := HX0.out W0 (Below.refl _ _)
  have HLV : Hid (∀ W, Below W0.heap.size W0 W → Calls Tryd.prog 7 #[] W fun e w' => e = .returned (.bool true) ∧ Below w.heap.size w w') := fun W hW => (lives25_any W).mono fun e w' h => ⟨h.1, HB0.out.trans ((hW.trans (h.2.mono hW.size)).mono HB0.out.size)⟩
  have hb00 : Below W0.heap.size W0 W0 := Below.refl _ _
  clear hb hb2 hx hl hl2 hz0
  have HW1 := Lib.hid (wide25_any A l c fs W0.heap.size W0 HL.out HF.out)
  have HW2 := Lib.hid (wide25_any A2 l2 c2 gs W0.heap.size W0 HL2.out HG.out)
  have hrow3 : Hid (Files (W0.alloc (.cells #[.string x.nm, .slice x.ad x.data.length x.cp] 25)) (W0.heap.size + 1) (some ⟨W0.heap.size, 0, none⟩) [x]) := ⟨fun _ => ⟨_, 0, rfl, Nat.lt_succ_self _, fun j u hj => by
      rw [Nat.zero_add, cell_of_row _ _ _ _ _ _ (heap_alloc_new W0 _)]
      unfold fiCells Fi.cells at hj
      simpa using hj⟩, fun f hf => by
      rw [List.mem_singleton] at hf
      subst hf
      exact ⟨(HXB.out.alloc (Nat.le_refl _) _).more (Nat.le_succ _), HXC.out⟩⟩
  have HW3 := Lib.hid (wide25_any (some ⟨W0.heap.size, 0, none⟩) 1 1 [x] _ _ rfl hrow3.out)
  go_enter Tryd.func3, Tryd.ntmps3
  go_wp2_with fail
  refine HW1.out.mono ?_
  rintro e w1 ⟨o1, rfl, hw1, ho1⟩
  have HO1 := Lib.hid ho1
  subst hw1
  clear HW1 ho1
  cases o1 with
  | true =>
    go_wp2_with fail
    refine (HLV.out _ hb00).mono ?_
    rintro e wL ⟨rfl, hbL⟩
    go_wp2
    go_ret
    exact ⟨rfl, hbL⟩
  | false =>
    have HN1 := Lib.hid (show fs.length ≤ 250 ∧ ∀ f ∈ fs, f.nm.size ≤ 300 ∧ f.data.length ≤ 70000 from HO1.out rfl)
    clear HO1
    have hl250 : l ≤ 250 := by have := HN1.out.1; have := HL.out; omega
    go_wp2_with fail
    refine HW2.out.mono ?_
    rintro e w1 ⟨o1, rfl, hw1, ho1⟩
    have HO2 := Lib.hid ho1
    subst hw1
    clear HW2 ho1
    cases o1 with
    | true =>
      go_wp2_with fail
      refine (HLV.out _ hb00).mono ?_
      rintro e wL ⟨rfl, hbL⟩
      go_wp2
      go_ret
      exact ⟨rfl, hbL⟩
    | false =>
      clear HO2
      go_wp2_with fail
      refine HW3.out.mono ?_
      rintro e w1 ⟨o1, rfl, hw1, ho1⟩
      have HO3 := Lib.hid ho1
      obtain ⟨W1, hW1⟩ : ∃ W1, W0.alloc (.cells #[.string x.nm, .slice x.ad x.data.length x.cp] 25) = W1 := ⟨_, rfl⟩
      have hb1 : Below W0.heap.size W0 W1 := by rw [← hW1]; exact (Below.refl _ W0).alloc (Nat.le_refl _) _
      rw [hW1] at hw1
      subst hw1
      clear hW1 ho1 HW3 hrow3 b0 b1
      have HB1 := Lib.hid hb1
      cases o1 with
      | true =>
        go_wp2_with fail
        refine (HLV.out _ hb1).mono ?_
        rintro e wL ⟨rfl, hbL⟩
        go_wp2
        go_ret
        exact ⟨rfl, hbL⟩
      | false =>
        have HN3 := Lib.hid (show x.data.length ≤ 70000 from (((HO3.out rfl).2 x (List.mem_singleton.2 rfl)).2))
        clear hb1
        have HF1 := Lib.hid ((HF.out.below HB1.out (Nat.le_refl _)).more HB1.out.size)
        have HG1 := Lib.hid ((HG.out.below HB1.out (Nat.le_refl _)).more HB1.out.size)
        have HS1 := Lib.hid (same25_any A l c A2 l2 c2 fs gs W1.heap.size W1 HL.out HL2.out (by omega) HF1.out HG1.out (Nat.le_refl _))
        go_wp2_with fail
        refine HS1.out.mono ?_
        rintro e w2 ⟨rfl, hb2⟩
        have HB2 := Lib.hid (HB1.out.trans (hb2.mono HB1.out.size))
        clear hb2 HS1
        have HF2 := Lib.hid ((HF.out.below HB2.out (Nat.le_refl _)).more HB2.out.size)
        have HG2 := Lib.hid ((HG.out.below HB2.out (Nat.le_refl _)).more HB2.out.size)
        have HS2 := Lib.hid (refSame25_any A l c A2 l2 c2 fs gs w2.heap.size w2 HL.out HL2.out (by omega) HF2.out HG2.out)
        go_wp2_with fail
        refine HS2.out.mono ?_
        rintro e w3 ⟨rfl, n3, hw3⟩
        have HB3 : Hid (Below W0.heap.size W0 w3) := by show Below _ _ _; rw [← hw3]; exact Below.drewN HB2.out _
        clear hw3 HS2 HG1 HG2
        have HF3 := Lib.hid ((HF.out.below HB3.out (Nat.le_refl _)).more HB3.out.size)
        have HS3 := Lib.hid (same25_any A l c A l c fs fs w3.heap.size w3 HL.out HL.out (by omega) HF3.out HF3.out (Nat.le_refl _))
        rw [eqF_yes (rfl : fs.map Fi.key = fs.map Fi.key)] at HS3
        obtain ⟨q, hq⟩ : ∃ q, eqF fs gs = q := ⟨_, rfl⟩
        rw [hq]
        clear hq
        go_wp2_with fail
        refine HS3.out.mono ?_
        rintro e w4 ⟨rfl, hb4⟩
        have HB4 := Lib.hid (HB3.out.trans (hb4.mono HB3.out.size))
        clear hb4 HS3 HF3 HF2 HF1
        have HF4 := Lib.hid ((HF.out.below HB4.out (Nat.le_refl _)).more HB4.out.size)
        have HM4 := Lib.hid (refMap25_any A l c fs w4.heap.size w4 HL.out (by omega) HF4.out)
        obtain ⟨qm, hqm⟩ : ∃ qm, mapB fs = qm := ⟨_, rfl⟩
        rw [hqm] at HM4
        have HQM := Lib.hid hqm
        clear hqm
        go_wp2_with fail
        refine HM4.out.mono ?_
        rintro e w5 ⟨rfl, n5, hw5⟩
        have HB5 : Hid (Below W0.heap.size W0 w5) := by show Below _ _ _; rw [← hw5]; exact Below.drewN HB4.out _
        clear hw5 HM4
        cases qm with
        | false =>
          go_wp2_with fail
          refine (HLV.out _ HB5.out).mono ?_
          rintro e wL ⟨rfl, hbL⟩
          go_wp2
          go_ret
          exact ⟨rfl, hbL⟩
        | true =>
          have HR := Lib.hid (mapB_ris HQM.out)
          clear HF4
          go_wp2
          go_loopg [7, 8] l (fun gk v i wr => ∃ (k : Nat) (hs : List Fi), k + gk = l ∧ i = .int .i64 k ∧ hs.map Fi.key = (fs.take k).map Fi.key ∧ hs.length = k ∧ wr.ownsRow w5.heap.size 25 2 v k (fiCells hs) ∧ (∀ h ∈ hs, TxtB wr h ∧ h.data.length ≤ h.cp) ∧ Below W0.heap.size W0 wr ∧ w5.heap.size ≤ wr.heap.size)
          case atStart => exact ⟨0, [], by omega, rfl, rfl, rfl, World.ownsRow_nil _ _ _ _, fun h hh => (by cases hh), HB5.out, Nat.le_refl _⟩
          case round =>
            obtain ⟨k, hs, hk, rfl, hkey, hhl, hown, htx, hbel, hsz⟩ := hrel
            have HK := Lib.hid hkey
            have HHL := Lib.hid hhl
            have HOWN := Lib.hid hown
            have HTX := Lib.hid htx
            have HBL := Lib.hid hbel
            have HSZ := Lib.hid hsz
            clear hkey hhl hown htx hbel hsz
            obtain ⟨Ak, ck, rfl⟩ := own_form' HOWN.out
            by_cases h : k < l
            · obtain ⟨y, hy⟩ : ∃ y, fs[k]? = some y := ⟨_, List.getElem?_eq_getElem (by have := HL.out; omega)⟩
              obtain ⟨b, o, rfl, hbB, hc⟩ := HF.out.row (by rw [fi_len]; have := HL.out; omega)
              have HMT : Hid (∀ W, Below W0.heap.size W0 W → W.cell? ⟨b, o + k * 2, none⟩ = some (.string y.nm) ∧ W.cell? ⟨b, o + k * 2 + 1, none⟩ = some (.slice y.ad y.data.length y.cp)) := fun W hW => fi_at (fun j u hj => (hW.cell (p := ⟨b, o + j, none⟩) hbB).trans (hc j u hj)) hy
              have HBY := Lib.hid (HF.out.each y (List.mem_of_getElem? hy)).1
              have HYD := Lib.hid ((HN1.out.2 y (List.mem_of_getElem? hy)).2)
              have HTK := Lib.hid (takeF_snoc hy)
              clear hc hy
              obtain ⟨sy, hsy⟩ : ∃ sy, (⟨y.data.toArray⟩ : ByteArray) = sy := ⟨_, rfl⟩
              have hsl : sy.size = y.data.length := by rw [← hsy]; rfl
              have hsd : sy.data.toList = y.data := by rw [← hsy]
              obtain ⟨c0, c1⟩ := HMT.out wr.drew HBL.out.drew
              have k1 : (convert 23 9 (.slice y.ad y.data.length y.cp)).run Tryd.prog wr.drew = .ok (.string sy) wr.drew := by rw [← hsy]; exact strF_any _ y.ad y.data.length y.cp W0.heap.size y.data (HBY.out.below HBL.out.drew (Nat.le_refl _)) rfl
              obtain ⟨cap, WA, C, fr, hrun, hba, hWA, hCC, hcap⟩ := toB_blk wr.drew sy
              have hsz : wr.drew.heap.size = wr.heap.size := rfl
              rw [hsz] at hrun hba
              have HBA := Lib.hid (HBL.out.drew.trans (hba.mono HBL.out.size))
              subst hWA
              obtain ⟨d0, d1⟩ := HMT.out (wr.alloc (.cells C 5 fr)) (HBL.out.alloc HBL.out.size _)
              have hw1 : IntKind.i64.wrap ((k : Int) + 1) = (k : Int) + 1 := IntWalk.i64_in _ (by omega)
              obtain ⟨D, hD⟩ : ∃ D : Array Value, D = #[.string y.nm, .slice (some ⟨wr.heap.size, 0, none⟩) y.data.length cap] := ⟨_, rfl⟩
              obtain ⟨WB, hWB⟩ : ∃ WB, WB = ((wr.alloc (.cells C 5 fr)).alloc (.cells #[.string y.nm, .slice (some ⟨wr.heap.size, 0, none⟩) y.data.length cap] 25)).drew.drew := ⟨_, rfl⟩
              have HWB := Lib.hid hWB
              have HZB : Hid (WB.heap.size = wr.heap.size + 2) := by show _ = _; rw [hWB]; show ((wr.alloc _).alloc _).heap.size = _; rw [World.size_alloc, World.size_alloc]
              have HBB : Hid (Below wr.heap.size wr WB) := by show Below _ _ _; rw [hWB]; exact (((Below.refl _ wr).alloc (Nat.le_refl _) _).alloc (by simp) _).drew.drew
              have HOB : Hid (WB.ownsRow w5.heap.size 25 2 (.slice Ak k ck) k (fiCells hs)) := own_keep HOWN.out (Mod.of_below HBB.out) (fun _ _ h => h)
              have HRB : Hid (WB.heap[wr.heap.size + 1]? = some (.cells #[.string y.nm, .slice (some ⟨wr.heap.size, 0, none⟩) y.data.length cap] 25 (0, 0))) := by
                show _ = _
                rw [hWB]
                have h1 := heap_alloc_new (wr.alloc (.cells C 5 fr)) (.cells #[.string y.nm, .slice (some ⟨wr.heap.size, 0, none⟩) y.data.length cap] 25)
                rw [World.size_alloc] at h1
                exact h1
              have HTB : Hid (WB.heap[wr.heap.size]? = some (.cells C 5 fr)) := by
                show _ = _
                rw [hWB]
                exact (Below.heap_alloc (wr.alloc (.cells C 5 fr)) _ wr.heap.size (by simp)).trans (heap_alloc_new wr _)
              have HCB : Hid (Cells WB WB.heap.size (some ⟨wr.heap.size + 1, 0, none⟩) [.string y.nm, .slice (some ⟨wr.heap.size, 0, none⟩) y.data.length cap]) := fun _ => ⟨_, 0, rfl, by rw [HZB.out]; omega, fun j u hj => by rw [Nat.zero_add, cell_of_row _ _ _ _ _ _ HRB.out]; simpa using hj⟩
              have HBS : Hid (w5.heap.size ≤ WB.heap.size) := by rw [HZB.out]; have := HSZ.out; show _ ≤ _; omega
              have HCC : Hid (∀ (j : Nat) (u : Value), (byteCells y.data)[j]? = some u → C[j]? = some u) := by rw [← hsd]; exact hCC
              have HCAP : Hid (y.data.length ≤ cap) := by rw [← hsl]; exact hcap
              clear hba hWB hD hCC hcap hsd
              go_wp2_with fail
              go_region_law (refine step_app (((wr.alloc (.cells C 5 fr)).alloc (.cells #[.string y.nm, .slice (some ⟨wr.heap.size, 0, none⟩) y.data.length cap] 25)).drew.drew) fileElem (by rfl) (.tmp 49) (.tmp 63) (by rfl) w5.heap.size (.slice Ak k ck) k (fiCells hs) (by rfl) (by rw [← HWB.out]; exact HOB.out) WB.heap.size (some ⟨wr.heap.size + 1, 0, none⟩) 1 1 [.string y.nm, .slice (some ⟨wr.heap.size, 0, none⟩) y.data.length cap] (by rfl) (by rfl) (by rw [← HWB.out]; exact HCB.out) (by intro u hu; simp only [List.mem_cons, List.not_mem_nil, or_false] at hu; rcases hu with rfl | rfl <;> rfl) (by unfold maxLen; omega) (by omega) (by rw [← HWB.out]; exact HBS.out) ?_; intro A3 c3 w7 hA; have HA : Hid (App WB w5.heap.size 25 2 (.slice Ak k ck) (k + 1) (fiCells hs ++ [.string y.nm, .slice (some ⟨wr.heap.size, 0, none⟩) y.data.length cap]) w7 (.slice A3 (k + 1) c3)) := (by rw [HWB.out]; exact hA); clear hA)
              all_goals
                go_wp2
                go_roundg (gk - 1)
                case measure => omega
                case rel =>
                  have ho := HA.out.own
                  refine ⟨k + 1, hs ++ [⟨y.nm, y.data, some ⟨wr.heap.size, 0, none⟩, cap⟩], by omega, by go_num, ?_, by rw [List.length_append, HHL.out]; rfl, ?_, ?_, HA.out.below (HBL.out.trans (HBB.out.mono HBL.out.size)) (HBL.out.trans (HBB.out.mono HBL.out.size)).size (fun q hq => Nat.le_trans (HB5.out.size) ((HOB.out.lt q hq).1)), Nat.le_trans HBS.out HA.out.grow.size⟩
                  · rw [HTK.out, List.map_append, List.map_append, HK.out]; rfl
                  · rw [fiCells_snoc]
                    exact ho
                  · intro z hz
                    rcases List.mem_append.1 hz with hz | hz
                    · refine ⟨?_, (HTX.out z hz).2⟩
                      obtain ⟨b', C', fr', e1, e2, e3⟩ := (HTX.out z hz).1
                      exact TxtB.keep ⟨b', C', fr', e1, (HBB.out.block b' (Array.getElem?_eq_some_iff.1 e2).1).trans e2, e3⟩ HA.out.grow (own_blk HOB.out)
                    · rw [List.mem_singleton] at hz
                      subst hz
                      exact ⟨TxtB.keep ⟨_, C, fr, rfl, HTB.out, HCC.out⟩ HA.out.grow (own_blk HOB.out), HCAP.out⟩
            · obtain rfl : k = l := by omega
              have HKEY : Hid (hs.map Fi.key = fs.map Fi.key) := by show _ = _; rw [HK.out, List.take_of_length_le (by have := HL.out; omega)]
              have HRH : Hid (Ris Fi.nm hs) := by show Ris _ _; rw [ris_key, HKEY.out, ← ris_key]; exact HR.out
              have HFO : Hid (Files wr wr.heap.size Ak hs) := Files.of_own HOWN.out (fun f hf => ⟨(HTX.out f hf).1.bytes, (HTX.out f hf).2⟩)
              have HSH := Lib.hid (Shp.of_own HOWN.out)
              have HHD : Hid (∀ f ∈ hs, f.data.length ≤ 1000000) := fun f hf => by
                obtain ⟨i, hi⟩ := List.mem_iff_getElem?.1 hf
                obtain ⟨y, hy, _, hd⟩ := key_get HKEY.out hi
                have := (HN1.out.2 y (List.mem_of_getElem? hy)).2
                rw [hd]
                omega
              have HXD := HN3.out
              have HWI : Hid (∀ W, Below W0.heap.size W0 W → wr.heap.size ≤ W.heap.size → Below wr.heap.size wr W → Calls Tryd.prog 13 #[.slice Ak k ck, .string x.nm, .slice x.ad x.data.length x.cp] W fun e w' => ∃ A' c' gs, e = .returned (.slice A' gs.length c') ∧ gs.map Fi.key = (withK Fi.nm hs x).map Fi.key ∧ gs.length ≤ k + 1 ∧ Files w' w'.heap.size A' gs ∧ Below W.heap.size W w') := fun W hW hs' hW' => With25_any Ak k ck hs x W.heap.size W HSH.out HHL.out (by omega) HRH.out ((HFO.out.below hW' (Nat.le_refl _)).more hs') (Nat.le_refl _) ⟨(HXB.out.below hW (Nat.le_refl _)).more hW.size, HXC.out⟩ HHD.out (by omega)
              have HWO : Hid (∀ W, Below wr.heap.size wr W → Calls Tryd.prog 14 #[.slice Ak k ck, .string x.nm] W fun e w' => ∃ A' c' gs, e = .returned (.slice A' gs.length c') ∧ gs.map Fi.key = (outK Fi.nm hs x.nm).map Fi.key ∧ gs.length ≤ k ∧ Files w' w'.heap.size A' gs ∧ Below W.heap.size W w') := fun W hW => Without25_any Ak k ck hs x.nm W.heap.size W HSH.out HHL.out (by omega) HRH.out ((HFO.out.below hW (Nat.le_refl _)).more hW.size) (Nat.le_refl _) HHD.out
              have HFI := Lib.hid (refFind25_any A k c fs x.nm W0.heap.size wr HL.out (by omega) HR.out (HF.out.below HBL.out (Nat.le_refl _)))
              have HW6s : Hid (wr.heap.size ≤ wr.heap.size) := Nat.le_refl _
              obtain ⟨b0, b1⟩ := HX0.out wr HBL.out
              clear HXD
              go_wp2_with fail
              refine HFI.out.mono ?_
              rintro e w6 ⟨rfl, hw6⟩
              subst hw6
              clear HFI
              obtain ⟨qh, hqh⟩ : ∃ q, hasK Fi.nm fs x.nm = q := ⟨_, rfl⟩
              have hqs : hasK Fi.nm hs x.nm = qh := by rw [has_key, HKEY.out, ← has_key]; exact hqh
              cases qh with
              | false =>
                have hfi : findF fs x.nm = -1 := by unfold findF; rw [if_neg (by rw [hqh]; decide)]
                have HFN := Lib.hid (findMF_no Ak k ck hs x.nm wr.heap.size wr HHL.out (by omega) HRH.out HFO.out (Nat.le_refl _) hqs)
                rw [hfi]
                clear hfi hqh hqs
                have KQ := Lib.hid (show (0:Nat) ≤ 1 by omega)
                go_wp2_with fail
                refine HFN.out.mono ?_
                rintro e w7 ⟨rfl, hb7⟩
                have HB7 := Lib.hid (HBL.out.trans (hb7.mono HBL.out.size))
                have HB67 := Lib.hid hb7
                clear hb7 HFN b0 b1
                obtain ⟨b0, b1⟩ := HX0.out w7 HB7.out
                go_wp2_with fail
                go_quiet (fail)
                obtain ⟨V, hV⟩ : ∃ V, V = w7.drewN nq := ⟨_, rfl⟩
                rw [← hV]
                have HBV : Hid (Below W0.heap.size W0 V) := by show Below _ _ _; rw [hV]; exact Below.drewN HB7.out _
                have HB6V : Hid (Below wr.heap.size wr V) := by show Below _ _ _; rw [hV]; exact Below.drewN HB67.out _
                clear hV HB7 HB67 b0 b1
                have HB7 := HBV
                have HB67 := HB6V
                obtain ⟨b0, b1⟩ := HX0.out V HB7.out
                go_wp2_with fail
                refine (HWI.out _ HB7.out (Nat.le_trans HW6s.out HB67.out.size) HB67.out).mono ?_
                rintro e w8 ⟨A8, c8, gs8, rfl, hk8, hl8, hf8, hb8⟩
                have HK8 := Lib.hid hk8
                have HF8 := Lib.hid hf8
                have HL8 := Lib.hid hl8
                have HB8 := Lib.hid (HB7.out.trans (hb8.mono HB7.out.size))
                have HB68 := Lib.hid (HB67.out.trans (hb8.mono HB67.out.size))
                clear hk8 hl8 hf8 hb8 b0 b1
                obtain ⟨b0, b1⟩ := HX0.out w8 HB8.out
                go_wp2_with fail
                refine (HWO.out _ HB68.out).mono ?_
                rintro e w9 ⟨A9, c9, gs9, rfl, hk9, hl9, hf9, hb9⟩
                have HK9 := Lib.hid hk9
                have HF9 := Lib.hid hf9
                have HL9 := Lib.hid hl9
                have HB9 := Lib.hid (HB8.out.trans (hb9.mono HB8.out.size))
                have HF89 := Lib.hid ((HF8.out.below hb9 (Nat.le_refl _)).more hb9.size)
                have HB69 := Lib.hid (HB68.out.trans (hb9.mono HB68.out.size))
                clear hk9 hl9 hf9 hb9 b0 b1
                obtain ⟨b0, b1⟩ := HX0.out w9 HB9.out
                have HSA := Lib.hid (refSame25_any Ak k ck A k c hs fs w9.heap.size w9 HHL.out HL.out (by omega) ((HFO.out.below HB69.out (Nat.le_refl _)).more HB69.out.size) ((HF.out.below HB9.out (Nat.le_refl _)).more HB9.out.size))
                rw [eqF_yes HKEY.out] at HSA
                go_wp2_with fail
                refine HSA.out.mono ?_
                rintro e w10 ⟨rfl, n10, hw10⟩
                have HBA : Hid (Below w9.heap.size w9 w10) := by show Below _ _ _; rw [← hw10]; exact Below.drewN (Below.refl _ _) _
                have HB10 := Lib.hid (HB9.out.trans (HBA.out.mono HB9.out.size))
                clear hw10 HSA b0 b1
                obtain ⟨b0, b1⟩ := HX0.out w10 HB10.out
                have k3 := strF_any w10 x.ad x.data.length x.cp W0.heap.size x.data (HXB.out.below HB10.out (Nat.le_refl _)) rfl
                have HRW := Lib.hid (refWith25_any A k c fs x.nm ⟨x.data.toArray⟩ W0.heap.size w10 HL.out (by omega) HR.out (HF.out.below HB10.out (Nat.le_refl _)) HB10.out.size)
                obtain ⟨sx, hsx⟩ : ∃ sx, (⟨x.data.toArray⟩ : ByteArray) = sx := ⟨_, rfl⟩
                have HSX : Hid (sx.data.toList = x.data) := by show _ = _; rw [← hsx]
                rw [hsx] at k3 HRW
                clear hsx
                go_wp2_with fail
                refine HRW.out.mono ?_
                rintro e w11 ⟨A11, c11, m, hmn, hmd, rfl, hle, hf11, hb11⟩
                have HKM : Hid (gs8.map Fi.key = (withK Fi.nm fs m).map Fi.key) := by
                  show _ = _
                  rw [HK8.out, with_key, with_key, HKEY.out]
                  have : x.key = m.key := by unfold Fi.key; rw [hmn, hmd, HSX.out]
                  rw [this]
                have HB11 := Lib.hid (HB10.out.trans (hb11.mono HB10.out.size))
                have HF11 := Lib.hid hf11
                have HLE := Lib.hid hle
                have HBB := Lib.hid (HBA.out.trans (hb11.mono HBA.out.size))
                clear hmn hmd hf11 hb11 hle k3 b0 b1
                obtain ⟨n11, hn11⟩ : ∃ n, (withK Fi.nm fs m).length = n := ⟨_, rfl⟩
                obtain ⟨n8, hn8⟩ : ∃ n, gs8.length = n := ⟨_, rfl⟩
                have HN8 := Lib.hid hn8
                have hl8 := HL8.out
                rw [hn8] at hl8
                have HSB := Lib.hid (refSame25_any A8 n8 c8 A11 n11 c11 gs8 (withK Fi.nm fs m) w11.heap.size w11 hn8 hn11 (by omega) ((HF89.out.below HBB.out (Nat.le_refl _)).more HBB.out.size) HF11.out)
                rw [eqF_yes HKM.out] at HSB
                rw [hn8, hn11]
                clear hn8 hn11
                go_wp2_with fail
                refine HSB.out.mono ?_
                rintro e w12 ⟨rfl, n12, hw12⟩
                have HBC : Hid (Below w9.heap.size w9 w12) := by show Below _ _ _; rw [← hw12]; exact Below.drewN HBB.out _
                have HB12 := Lib.hid (HB9.out.trans (HBC.out.mono HB9.out.size))
                clear hw12 HSB
                obtain ⟨b0, b1⟩ := HX0.out w12 HB12.out
                have HRO := Lib.hid (refWithout25_any A k c fs x.nm W0.heap.size w12 HL.out (by omega) (HF.out.below HB12.out (Nat.le_refl _)).row HB12.out.size)
                obtain ⟨no, hno⟩ : ∃ n, (outK Fi.nm fs x.nm).length = n := ⟨_, rfl⟩
                rw [hno] at HRO
                have HNO := Lib.hid hno
                clear hno
                go_wp2_with fail
                refine HRO.out.mono ?_
                rintro e w13 ⟨A13, c13, rfl, ho13, hb13⟩
                have HF13 := Lib.hid (Files.of_own ho13 (fun f hf => by
                  have h1 := (HF.out.each f (mem_outK hf))
                  exact ⟨(((h1.1.below HB12.out (Nat.le_refl _)).more HB12.out.size).below hb13 (Nat.le_refl _)).more hb13.size, h1.2⟩))
                have HBD := Lib.hid (HBC.out.trans (hb13.mono HBC.out.size))
                have HB13 := Lib.hid (HB12.out.trans (hb13.mono HB12.out.size))
                clear ho13 hb13 b0 b1
                obtain ⟨n9, hn9⟩ : ∃ n, gs9.length = n := ⟨_, rfl⟩
                have hl9 := HL9.out
                rw [hn9] at hl9
                have HSC := Lib.hid (refSame25_any A9 n9 c9 A13 no c13 gs9 (outK Fi.nm fs x.nm) w13.heap.size w13 hn9 HNO.out (by omega) ((HF9.out.below HBD.out (Nat.le_refl _)).more HBD.out.size) HF13.out)
                rw [eqF_yes (by rw [HK9.out, out_key, out_key, HKEY.out])] at HSC
                rw [hn9]
                clear hn9
                go_wp2_with fail
                refine HSC.out.mono ?_
                rintro e w14 ⟨rfl, n14, hw14⟩
                have HB14 : Hid (Below W0.heap.size W0 w14) := by show Below _ _ _; rw [← hw14]; exact Below.drewN HB13.out _
                clear hw14 HSC
                go_wp2_with fail
                refine (HLV.out _ HB14.out).mono ?_
                rintro e wL ⟨rfl, hbL⟩
                go_wp2
                go_ret
                exact ⟨rfl, hbL⟩
              | true =>
                have hps : posK Fi.nm hs x.nm = posK Fi.nm fs x.nm := by rw [pos_key, HKEY.out, ← pos_key]
                obtain ⟨p, hp⟩ : ∃ p, posK Fi.nm fs x.nm = p := ⟨_, rfl⟩
                have hfi : findF fs x.nm = (p : Int) := by unfold findF; rw [if_pos hqh, hp]
                obtain ⟨y, hy, _⟩ := hasK_there HR.out hqh
                rw [hp] at hy hps
                obtain ⟨z, hz, _, hzd⟩ := key_get HKEY.out.symm hy
                have HFN := Lib.hid (findMF_yes Ak k ck hs x.nm z wr.heap.size wr HHL.out (by omega) HRH.out HFO.out (Nat.le_refl _) hqs (by rw [hps]; exact hz) (HHD.out z (List.mem_of_getElem? hz)))
                have hpl : p < k := by have := (List.getElem?_eq_some_iff.1 hy).1; have := HL.out; omega
                have hpi : (p : Int) < (k : Int) := by omega
                have hp0 : (0 : Int) ≤ (p : Int) := by omega
                obtain ⟨b, o, rfl, hbB, hc⟩ := HF.out.row (by rw [fi_len]; have := HL.out; omega)
                have HMT : Hid (∀ W, Below W0.heap.size W0 W → W.cell? ⟨b, o + p * 2, none⟩ = some (.string y.nm) ∧ W.cell? ⟨b, o + p * 2 + 1, none⟩ = some (.slice y.ad y.data.length y.cp)) := fun W hW => fi_at (fun j u hj => (hW.cell (p := ⟨b, o + j, none⟩) hbB).trans (hc j u hj)) hy
                have HBY := Lib.hid (HF.out.each y (List.mem_of_getElem? hy)).1
                rw [hfi]
                obtain ⟨ln, hln⟩ : ∃ ln, z.data.length = ln := ⟨_, rfl⟩
                have hln2 : y.data.length = ln := by rw [hzd]; exact hln
                have HLN2 := Lib.hid hln2
                rw [hln] at HFN
                rw [hln2] at HMT
                have HZY : Hid (z.data = y.data) := hzd.symm
                have HLN := Lib.hid hln
                clear hfi hqh hqs hps hp hy hz hzd hc hln hln2
                go_wp2_with fail
                refine HFN.out.mono ?_
                rintro e w7 ⟨A7, c7, rfl, ho7, hb7⟩
                have HB7 := Lib.hid (HBL.out.trans (hb7.mono HBL.out.size))
                have HB67 := Lib.hid hb7
                have HO7 := Lib.hid (Cells.of_own ho7)
                clear ho7 hb7 HFN b0 b1
                obtain ⟨b0, b1⟩ := HX0.out w7 HB7.out
                obtain ⟨sy, hsy⟩ : ∃ sy, (⟨y.data.toArray⟩ : ByteArray) = sy := ⟨_, rfl⟩
                have HSY := Lib.hid hsy
                have hse : (sy.toList == sy.toList) = true := by simp
                clear hsy
                go_wp2_with fail
                obtain ⟨fw, hfw⟩ : ∃ fw : Nat → World, ∀ n, fw n = w7.drewN n := ⟨_, fun _ => rfl⟩
                have HFW := Lib.hid hfw
                have c0 : ∀ n, (fw n).cell? ⟨b, o + p * 2, none⟩ = some (.string y.nm) := fun n => by rw [hfw]; exact (HMT.out _ (Below.drewN HB7.out _)).1
                have c1 : ∀ n, (fw n).cell? ⟨b, o + p * 2 + 1, none⟩ = some (.slice y.ad ln y.cp) := fun n => by rw [hfw]; exact (HMT.out _ (Below.drewN HB7.out _)).2
                have k1 : ∀ n, (convert 23 9 (.slice y.ad ln y.cp)).run Tryd.prog (fw n) = .ok (.string sy) (fw n) := fun n => by rw [hfw, ← HSY.out]; exact strF_any _ y.ad ln y.cp W0.heap.size y.data ((HBY.out.below (Below.drewN HB7.out n) (Nat.le_refl _))) HLN2.out
                have k2 : ∀ n, (convert 23 9 (.slice A7 ln c7)).run Tryd.prog (fw n) = .ok (.string sy) (fw n) := fun n => by rw [hfw, ← HSY.out, ← HZY.out]; exact strF_any _ A7 ln c7 w7.heap.size z.data (HO7.out.drewN' n) HLN.out
                have h01 : fw 1 = w7.drew := hfw 1
                clear hfw b0 b1
                refine region_quiet_f fw 1 h01 (by kernel_rfl) (by kernel_rfl) ?_
                repeat (go_big_quiet_step (fail))
                refine wpQuiet_nil ?_
                rintro _ ⟨nq, rfl⟩
                have HWN : Hid (fw nq = w7.drewN nq) := HFW.out nq
                generalize fw nq = V at *
                have HBV : Hid (Below W0.heap.size W0 V) := by show Below _ _ _; rw [HWN.out]; exact Below.drewN HB7.out _
                have HB6V : Hid (Below wr.heap.size wr V) := by show Below _ _ _; rw [HWN.out]; exact Below.drewN HB67.out _
                clear c0 c1 k1 k2 h01 HFW HWN HB7 HB67 hse
                have HB7 := HBV
                have HB67 := HB6V
                obtain ⟨b0, b1⟩ := HX0.out V HB7.out
                go_wp2_with fail
                refine (HWI.out _ HB7.out (Nat.le_trans HW6s.out HB67.out.size) HB67.out).mono ?_
                rintro e w8 ⟨A8, c8, gs8, rfl, hk8, hl8, hf8, hb8⟩
                have HK8 := Lib.hid hk8
                have HF8 := Lib.hid hf8
                have HL8 := Lib.hid hl8
                have HB8 := Lib.hid (HB7.out.trans (hb8.mono HB7.out.size))
                have HB68 := Lib.hid (HB67.out.trans (hb8.mono HB67.out.size))
                clear hk8 hl8 hf8 hb8 b0 b1
                obtain ⟨b0, b1⟩ := HX0.out w8 HB8.out
                go_wp2_with fail
                refine (HWO.out _ HB68.out).mono ?_
                rintro e w9 ⟨A9, c9, gs9, rfl, hk9, hl9, hf9, hb9⟩
                have HK9 := Lib.hid hk9
                have HF9 := Lib.hid hf9
                have HL9 := Lib.hid hl9
                have HB9 := Lib.hid (HB8.out.trans (hb9.mono HB8.out.size))
                have HF89 := Lib.hid ((HF8.out.below hb9 (Nat.le_refl _)).more hb9.size)
                have HB69 := Lib.hid (HB68.out.trans (hb9.mono HB68.out.size))
                clear hk9 hl9 hf9 hb9 b0 b1
                obtain ⟨b0, b1⟩ := HX0.out w9 HB9.out
                have HSA := Lib.hid (refSame25_any Ak k ck (some ⟨b, o, none⟩) k c hs fs w9.heap.size w9 HHL.out HL.out (by omega) ((HFO.out.below HB69.out (Nat.le_refl _)).more HB69.out.size) ((HF.out.below HB9.out (Nat.le_refl _)).more HB9.out.size))
                rw [eqF_yes HKEY.out] at HSA
                go_wp2_with fail
                refine HSA.out.mono ?_
                rintro e w10 ⟨rfl, n10, hw10⟩
                have HBA : Hid (Below w9.heap.size w9 w10) := by show Below _ _ _; rw [← hw10]; exact Below.drewN (Below.refl _ _) _
                have HB10 := Lib.hid (HB9.out.trans (HBA.out.mono HB9.out.size))
                clear hw10 HSA b0 b1
                obtain ⟨b0, b1⟩ := HX0.out w10 HB10.out
                have k3 := strF_any w10 x.ad x.data.length x.cp W0.heap.size x.data (HXB.out.below HB10.out (Nat.le_refl _)) rfl
                have HRW := Lib.hid (refWith25_any (some ⟨b, o, none⟩) k c fs x.nm ⟨x.data.toArray⟩ W0.heap.size w10 HL.out (by omega) HR.out (HF.out.below HB10.out (Nat.le_refl _)) HB10.out.size)
                obtain ⟨sx, hsx⟩ : ∃ sx, (⟨x.data.toArray⟩ : ByteArray) = sx := ⟨_, rfl⟩
                have HSX : Hid (sx.data.toList = x.data) := by show _ = _; rw [← hsx]
                rw [hsx] at k3 HRW
                clear hsx
                go_wp2_with fail
                refine HRW.out.mono ?_
                rintro e w11 ⟨A11, c11, m, hmn, hmd, rfl, hle, hf11, hb11⟩
                have HKM : Hid (gs8.map Fi.key = (withK Fi.nm fs m).map Fi.key) := by
                  show _ = _
                  rw [HK8.out, with_key, with_key, HKEY.out]
                  have : x.key = m.key := by unfold Fi.key; rw [hmn, hmd, HSX.out]
                  rw [this]
                have HB11 := Lib.hid (HB10.out.trans (hb11.mono HB10.out.size))
                have HF11 := Lib.hid hf11
                have HLE := Lib.hid hle
                have HBB := Lib.hid (HBA.out.trans (hb11.mono HBA.out.size))
                clear hmn hmd hf11 hb11 hle k3 b0 b1
                obtain ⟨n11, hn11⟩ : ∃ n, (withK Fi.nm fs m).length = n := ⟨_, rfl⟩
                obtain ⟨n8, hn8⟩ : ∃ n, gs8.length = n := ⟨_, rfl⟩
                have HN8 := Lib.hid hn8
                have hl8 := HL8.out
                rw [hn8] at hl8
                have HSB := Lib.hid (refSame25_any A8 n8 c8 A11 n11 c11 gs8 (withK Fi.nm fs m) w11.heap.size w11 hn8 hn11 (by omega) ((HF89.out.below HBB.out (Nat.le_refl _)).more HBB.out.size) HF11.out)
                rw [eqF_yes HKM.out] at HSB
                rw [hn8, hn11]
                clear hn8 hn11
                go_wp2_with fail
                refine HSB.out.mono ?_
                rintro e w12 ⟨rfl, n12, hw12⟩
                have HBC : Hid (Below w9.heap.size w9 w12) := by show Below _ _ _; rw [← hw12]; exact Below.drewN HBB.out _
                have HB12 := Lib.hid (HB9.out.trans (HBC.out.mono HB9.out.size))
                clear hw12 HSB
                obtain ⟨b0, b1⟩ := HX0.out w12 HB12.out
                have HRO := Lib.hid (refWithout25_any (some ⟨b, o, none⟩) k c fs x.nm W0.heap.size w12 HL.out (by omega) (HF.out.below HB12.out (Nat.le_refl _)).row HB12.out.size)
                obtain ⟨no, hno⟩ : ∃ n, (outK Fi.nm fs x.nm).length = n := ⟨_, rfl⟩
                rw [hno] at HRO
                have HNO := Lib.hid hno
                clear hno
                go_wp2_with fail
                refine HRO.out.mono ?_
                rintro e w13 ⟨A13, c13, rfl, ho13, hb13⟩
                have HF13 := Lib.hid (Files.of_own ho13 (fun f hf => by
                  have h1 := (HF.out.each f (mem_outK hf))
                  exact ⟨(((h1.1.below HB12.out (Nat.le_refl _)).more HB12.out.size).below hb13 (Nat.le_refl _)).more hb13.size, h1.2⟩))
                have HBD := Lib.hid (HBC.out.trans (hb13.mono HBC.out.size))
                have HB13 := Lib.hid (HB12.out.trans (hb13.mono HB12.out.size))
                clear ho13 hb13 b0 b1
                obtain ⟨n9, hn9⟩ : ∃ n, gs9.length = n := ⟨_, rfl⟩
                have hl9 := HL9.out
                rw [hn9] at hl9
                have HSC := Lib.hid (refSame25_any A9 n9 c9 A13 no c13 gs9 (outK Fi.nm fs x.nm) w13.heap.size w13 hn9 HNO.out (by omega) ((HF9.out.below HBD.out (Nat.le_refl _)).more HBD.out.size) HF13.out)
                rw [eqF_yes (by rw [HK9.out, out_key, out_key, HKEY.out])] at HSC
                rw [hn9]
                clear hn9
                go_wp2_with fail
                refine HSC.out.mono ?_
                rintro e w14 ⟨rfl, n14, hw14⟩
                have HB14 : Hid (Below W0.heap.size W0 w14) := by show Below _ _ _; rw [← hw14]; exact Below.drewN HB13.out _
                clear hw14 HSC
                go_wp2_with fail
                refine (HLV.out _ HB14.out).mono ?_
                rintro e wL ⟨rfl, hbL⟩
                go_wp2
                go_ret
                exact ⟨rfl, hbL⟩
end Go.Proofs.YtaneifmbjkolaaaDoor
