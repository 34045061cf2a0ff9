/- Layer 19: a member is read. -/
import Derived.Test.YthnoobhjkhafcaaDoorEnP
import Derived.Test.YthnoobhjkhafcaaDoorKSts
import Derived.Deep.RegionHeld3
import Derived.Outline
namespace Go.Proofs.YthnoobhjkhafcaaDoor
open Go.RowKit CrcP FieldP

def rdS (bs : List UInt8) (s : RSt) : Nat → RSt
  | 0 => s
  | k + 1 => ((rdS bs s k).num bs (widE k)).2
def rdN (bs : List UInt8) (s : RSt) (k : Nat) : Nat := ((rdS bs s k).num bs (widE k)).1
theorem widE_le : ∀ k, widE k ≤ 4
  | 0 => by decide
  | 1 => by decide
  | _ + 2 => Nat.le_refl _
theorem rdS_le {bs : List UInt8} {s : RSt} (h : s.p ≤ bs.length) : ∀ k, (rdS bs s k).p ≤ bs.length
  | 0 => h
  | k + 1 => num_le (rdS_le h k)
theorem rdN_lt (bs : List UInt8) (s : RSt) (k : Nat) : rdN bs s k < 4294967296 := num_lt (widE_le k)
/-- The name behind the numbers. -/
def rdX (bs : List UInt8) (s : RSt) : List UInt8 × RSt := (rdS bs s 6).row bs (rdN bs s 1)
/-- The member that is read. -/
def rdM (bs : List UInt8) (s : RSt) : LM := ⟨⟨(rdX bs s).1.toArray⟩, (rdN bs s 2 : Nat), (rdN bs s 2 : Nat) + (22 + ((rdX bs s).1.length : Int)), (rdN bs s 4 : Nat), (rdN bs s 3 : Nat), (rdN bs s 5 : Nat), (rdN bs s 0 : Nat)⟩
def LM.arr (m : LM) : Array Value := #[.string m.nm, .int .i64 m.at_, .int .i64 m.fr, .int .i64 m.ar, .int .i64 m.sz, .int .u32 m.su, .int .i64 m.me]
def arr6 (v0 v1 v2 v3 v4 v5 : Nat) : Nat → Array Value
  | 0 => #[.int .u32 0, .int .u32 0, .int .u32 0, .int .u32 0, .int .u32 0, .int .u32 0]
  | 1 => #[.int .u32 (v0 : Int), .int .u32 0, .int .u32 0, .int .u32 0, .int .u32 0, .int .u32 0]
  | 2 => #[.int .u32 (v0 : Int), .int .u32 (v1 : Int), .int .u32 0, .int .u32 0, .int .u32 0, .int .u32 0]
  | 3 => #[.int .u32 (v0 : Int), .int .u32 (v1 : Int), .int .u32 (v2 : Int), .int .u32 0, .int .u32 0, .int .u32 0]
  | 4 => #[.int .u32 (v0 : Int), .int .u32 (v1 : Int), .int .u32 (v2 : Int), .int .u32 (v3 : Int), .int .u32 0, .int .u32 0]
  | 5 => #[.int .u32 (v0 : Int), .int .u32 (v1 : Int), .int .u32 (v2 : Int), .int .u32 (v3 : Int), .int .u32 (v4 : Int), .int .u32 0]
  | _ => #[.int .u32 (v0 : Int), .int .u32 (v1 : Int), .int .u32 (v2 : Int), .int .u32 (v3 : Int), .int .u32 (v4 : Int), .int .u32 (v5 : Int)]
theorem only_new {g N i : Nat} {w w' : World} (h : Only g w w') (hN : w.heap.size ≤ N) (v : Value) : Only g w (w'.setCell ⟨N, i, none⟩ v) :=
  ⟨h.os, h.tape, h.output, by simpa [World.setCell] using h.size, fun k hk hne => (Below.heap_setCell w' _ v k (fun e => by have : k = N := e; omega)).trans (h.block k hk hne)⟩
theorem row_len_le (bs : List UInt8) (s : RSt) (k : Nat) : (s.row bs k).1.length ≤ bs.length := by
  unfold RSt.row
  split
  · exact Nat.zero_le _
  · split
    · rw [List.length_take, List.length_drop]; omega
    · exact Nat.zero_le _
theorem only_grown {g : Nat} {w W w' : World} (h : Only g w W) (hb : Below W.heap.size W w') : Only g w w' :=
  ⟨hb.os.trans h.os, hb.tape.trans h.tape, hb.output.trans h.output, Nat.le_trans h.size hb.size, fun k hk hne => (hb.block k (Nat.lt_of_lt_of_le hk h.size)).trans (h.block k hk hne)⟩
theorem wpAnyH_stronger {P : Program} {ops : Array Oper} {Q : Exit → Act → World → Prop} {md : Region.Mode} {S1 S2 : World → Prop} (h : ∀ w, S2 w → S1 w) : ∀ {fuel : Nat} {listed : Array Bool} {a : Act} {w : World}, wpAnyH P md ops Q S2 fuel listed a w → wpAnyH P md ops Q S1 fuel listed a w
  | 0, _, _, _, hw => hw
  | _ + 1, _, _, _, hw => ⟨hw.1, fun i hi => wpOp_mono (fun _ w' hs => ⟨h w' hs.1, wpAnyH_stronger h hs.2⟩) (hw.2 i hi)⟩
theorem cell_block' {w w' : World} {b : Nat} (h : w'.heap[b]? = w.heap[b]?) (k : Nat) : w'.cell? ⟨b, k, none⟩ = w.cell? ⟨b, k, none⟩ := by unfold World.cell?; rw [h]
theorem only_later {g : Nat} {w W w' : World} (h : Only g W w') (k : Only g w W) : Only g w w' := only_trans k h

set_option maxRecDepth 100000 in
set_option maxHeartbeats 8000000 in
theorem enRead_any (g : Nat) (A : Option Addr) (l c : Nat) (bs : List UInt8) (B : Nat) (s0 : RSt) (w : World) (hW : WidE w) (hr : RdS w g A l c s0) (hl : bs.length = l) (hm : l ≤ 1000000000) (hlc : l ≤ c) (hp : s0.p ≤ l)
    (hb : Bytes w B A bs) (hB : B ≤ w.heap.size) (hBg : B ≤ g) (h0g : g ≠ 0) :
    Calls Tryd.prog 40 #[.pointer (some ⟨g, 0, none⟩)] w fun e w' => e = .returned (.agg (rdM bs s0).arr) ∧ RdS w' g A l c (rdX bs s0).2 ∧ Only g w w' := by
  have HW := Lib.hid hW
  have hw0 := hW.1
  have HBA := Lib.hid hb
  have HL := Lib.hid hl
  have HS0 := Lib.hid (show s0.p ≤ bs.length by omega)
  have hgw := hr.lt
  have HXD : Hid (rdX bs s0 = (rdS bs s0 6).row bs (rdN bs s0 1)) := rfl
  have HMD : Hid ((rdM bs s0).arr = #[.string ⟨(rdX bs s0).1.toArray⟩, .int .i64 (rdN bs s0 2 : Nat), .int .i64 ((rdN bs s0 2 : Nat) + (22 + ((rdX bs s0).1.length : Int))), .int .i64 (rdN bs s0 4 : Nat), .int .i64 (rdN bs s0 3 : Nat), .int .u32 (rdN bs s0 5 : Nat), .int .i64 (rdN bs s0 0 : Nat)]) := rfl
  have hcv : ∀ (W : World) (A : Option Addr) (m c' B : Nat) (xs : List UInt8), Bytes W B A xs → xs.length = m → (convert 25 9 (.slice A m c')).run Tryd.prog W = .ok (.string ⟨xs.toArray⟩) W := fun W A m c' B xs h hl => run_string_of 25 9 5 Tryd.underlying25 Tryd.underlying5 Tryd.underlying9 h hl
  have HCV := Lib.hid hcv
  obtain ⟨w0, hw0'⟩ : ∃ w0, (w.alloc (.cells #[.string ⟨#[]⟩, .int .i64 0, .int .i64 0, .int .i64 0, .int .i64 0, .int .u32 0, .int .i64 0] 34)).alloc (.cells #[.int .u32 0, .int .u32 0, .int .u32 0, .int .u32 0, .int .u32 0, .int .u32 0] 50) = w0 := ⟨_, rfl⟩
  have HN0 : Hid (Box w0 (w.heap.size + 1) #[.int .u32 0, .int .u32 0, .int .u32 0, .int .u32 0, .int .u32 0, .int .u32 0] 50) := by
    rw [← hw0', show w.heap.size + 1 = (w.alloc (.cells #[.string ⟨#[]⟩, .int .i64 0, .int .i64 0, .int .i64 0, .int .i64 0, .int .u32 0, .int .i64 0] 34)).heap.size by simp]
    exact heap_alloc_new _ _
  have HX0 : Hid (Box w0 w.heap.size #[.string ⟨#[]⟩, .int .i64 0, .int .i64 0, .int .i64 0, .int .i64 0, .int .u32 0, .int .i64 0] 34) := by rw [← hw0']; exact Box.alloc (heap_alloc_new w _) _
  have HO0 : Hid (Only g w w0) := by rw [← hw0']; exact only_alloc (only_alloc (only_refl g w) _) _
  have HR0 : Hid (RdS w0 g A l c s0) := by rw [← hw0']; exact Rd.below hr (((Below.refl w.heap.size w).alloc (Nat.le_refl _) _).alloc (by simp) _) hgw
  clear hcv hW hr hl hb hp
  generalize hv0 : rdN bs s0 0 = v0 at *
  have HV0 := Lib.hid hv0
  have hl0 : v0 < 4294967296 := by rw [← hv0]; exact rdN_lt _ _ _
  clear hv0
  generalize hv1 : rdN bs s0 1 = v1 at *
  have HV1 := Lib.hid hv1
  have hl1 : v1 < 4294967296 := by rw [← hv1]; exact rdN_lt _ _ _
  clear hv1
  generalize hv2 : rdN bs s0 2 = v2 at *
  have HV2 := Lib.hid hv2
  have hl2 : v2 < 4294967296 := by rw [← hv2]; exact rdN_lt _ _ _
  clear hv2
  generalize hv3 : rdN bs s0 3 = v3 at *
  have HV3 := Lib.hid hv3
  have hl3 : v3 < 4294967296 := by rw [← hv3]; exact rdN_lt _ _ _
  clear hv3
  generalize hv4 : rdN bs s0 4 = v4 at *
  have HV4 := Lib.hid hv4
  have hl4 : v4 < 4294967296 := by rw [← hv4]; exact rdN_lt _ _ _
  clear hv4
  generalize hv5 : rdN bs s0 5 = v5 at *
  have HV5 := Lib.hid hv5
  have hl5 : v5 < 4294967296 := by rw [← hv5]; exact rdN_lt _ _ _
  clear hv5
  obtain ⟨N, hN⟩ : ∃ N, w.heap.size + 1 = N := ⟨_, rfl⟩
  rw [hN] at HN0
  have hNw : w.heap.size < N := by omega
  have HBK : Hid (∀ W, Only g w W → Bytes W B A bs) := fun W h => HBA.out.only h hB hBg
  have HWK : Hid (∀ W, Only g w W → ∀ k, k < 6 → W.cell? ⟨0, k, none⟩ = some (.int .i64 (widE k : Nat))) := fun W h k hk => (cell_block' (h.block 0 hw0 (fun e => by injection e with e; omega)) k).trans (HW.out.2 k hk)
  go_enter Tryd.func40, Tryd.ntmps40
  go_wp2_with fail
  clear hN hw0'
  go_loopw [4, 6] (fun _ i wr => ∃ k : Nat, k ≤ 6 ∧ i = .int .i64 k ∧ RdS wr g A l c (rdS bs s0 k) ∧ Box wr N (arr6 v0 v1 v2 v3 v4 v5 k) 50 ∧ Box wr w.heap.size #[.string ⟨#[]⟩, .int .i64 0, .int .i64 0, .int .i64 0, .int .i64 0, .int .u32 0, .int .i64 0] 34 ∧ Only g w wr) (fun _ i _ => 6 - (intOf i).toNat)
  case atStart => exact ⟨0, by omega, rfl, HR0.out, HN0.out, HX0.out, HO0.out⟩
  case round =>
    clear HR0 HN0 HX0 HO0
    obtain ⟨k, hk, rfl, hr, hn, hx, ho⟩ := hrel
    have HRk := Lib.hid hr
    have HNk := Lib.hid hn
    have HXk := Lib.hid hx
    have HOk := Lib.hid ho
    clear hr hn hx ho
    have hgN : g ≠ N := by omega
    have hgw' : w.heap.size ≠ g := by omega
    by_cases hk3 : k < 6
    · have hk4 : k = 0 ∨ k = 1 ∨ k = 2 ∨ k = 3 ∨ k = 4 ∨ k = 5 := by omega
      rcases hk4 with rfl | rfl | rfl | rfl | rfl | rfl
      · have HNU := Lib.hid (number_st g A l c bs B (rdS bs s0 0) 1 1 _ HRk.out HL.out (by omega) (by have := rdS_le HS0.out 0; have := HL.out; omega) (by omega) (by omega) rfl (HBK.out _ HOk.out))
        have hv : ((rdS bs s0 0).num bs 1).1 = v0 := HV0.out
        rw [hv] at HNU
        have hwd := HWK.out _ HOk.out 0 (by omega)
        rw [show ((widE 0 : Nat) : Int) = 1 from rfl] at hwd
        clear hv
        go_wp2_with (go_at_call 52; refine HNU.out.mono ?_; rintro e w2 ⟨rfl, hr, ho⟩; have HR2 := Lib.hid hr; have HN2 := Lib.hid (HNk.out.only ho hgN.symm); have HX2 := Lib.hid (HXk.out.only ho hgw'); have HO2 := Lib.hid (only_later ho HOk.out); clear hr ho hwd; have hc : w2.cell? ⟨N, 0, none⟩ = some (.int .u32 0) := HN2.out.cell 0; have hf := frozen_of_row w2 N 0 _ _ HN2.out)
        exact ⟨⟨1, by omega, rfl, HR2.out.set_other _ hgN, HN2.out.set _, HX2.out.set_other _ (by omega), only_new HO2.out (Nat.le_of_lt hNw) _⟩, by simp [intOf]⟩
      · have HNU := Lib.hid (number_st g A l c bs B (rdS bs s0 1) 1 1 _ HRk.out HL.out (by omega) (by have := rdS_le HS0.out 1; have := HL.out; omega) (by omega) (by omega) rfl (HBK.out _ HOk.out))
        have hv : ((rdS bs s0 1).num bs 1).1 = v1 := HV1.out
        rw [hv] at HNU
        have hwd := HWK.out _ HOk.out 1 (by omega)
        rw [show ((widE 1 : Nat) : Int) = 1 from rfl] at hwd
        clear hv
        go_wp2_with (go_at_call 52; refine HNU.out.mono ?_; rintro e w2 ⟨rfl, hr, ho⟩; have HR2 := Lib.hid hr; have HN2 := Lib.hid (HNk.out.only ho hgN.symm); have HX2 := Lib.hid (HXk.out.only ho hgw'); have HO2 := Lib.hid (only_later ho HOk.out); clear hr ho hwd; have hc : w2.cell? ⟨N, 1, none⟩ = some (.int .u32 0) := HN2.out.cell 1; have hf := frozen_of_row w2 N 1 _ _ HN2.out)
        exact ⟨⟨2, by omega, rfl, HR2.out.set_other _ hgN, HN2.out.set _, HX2.out.set_other _ (by omega), only_new HO2.out (Nat.le_of_lt hNw) _⟩, by simp [intOf]⟩
      · have HNU := Lib.hid (number_st g A l c bs B (rdS bs s0 2) 4 4 _ HRk.out HL.out (by omega) (by have := rdS_le HS0.out 2; have := HL.out; omega) (by omega) (by omega) rfl (HBK.out _ HOk.out))
        have hv : ((rdS bs s0 2).num bs 4).1 = v2 := HV2.out
        rw [hv] at HNU
        have hwd := HWK.out _ HOk.out 2 (by omega)
        rw [show ((widE 2 : Nat) : Int) = 4 from rfl] at hwd
        clear hv
        go_wp2_with (go_at_call 52; refine HNU.out.mono ?_; rintro e w2 ⟨rfl, hr, ho⟩; have HR2 := Lib.hid hr; have HN2 := Lib.hid (HNk.out.only ho hgN.symm); have HX2 := Lib.hid (HXk.out.only ho hgw'); have HO2 := Lib.hid (only_later ho HOk.out); clear hr ho hwd; have hc : w2.cell? ⟨N, 2, none⟩ = some (.int .u32 0) := HN2.out.cell 2; have hf := frozen_of_row w2 N 2 _ _ HN2.out)
        exact ⟨⟨3, by omega, rfl, HR2.out.set_other _ hgN, HN2.out.set _, HX2.out.set_other _ (by omega), only_new HO2.out (Nat.le_of_lt hNw) _⟩, by simp [intOf]⟩
      · have HNU := Lib.hid (number_st g A l c bs B (rdS bs s0 3) 4 4 _ HRk.out HL.out (by omega) (by have := rdS_le HS0.out 3; have := HL.out; omega) (by omega) (by omega) rfl (HBK.out _ HOk.out))
        have hv : ((rdS bs s0 3).num bs 4).1 = v3 := HV3.out
        rw [hv] at HNU
        have hwd := HWK.out _ HOk.out 3 (by omega)
        rw [show ((widE 3 : Nat) : Int) = 4 from rfl] at hwd
        clear hv
        go_wp2_with (go_at_call 52; refine HNU.out.mono ?_; rintro e w2 ⟨rfl, hr, ho⟩; have HR2 := Lib.hid hr; have HN2 := Lib.hid (HNk.out.only ho hgN.symm); have HX2 := Lib.hid (HXk.out.only ho hgw'); have HO2 := Lib.hid (only_later ho HOk.out); clear hr ho hwd; have hc : w2.cell? ⟨N, 3, none⟩ = some (.int .u32 0) := HN2.out.cell 3; have hf := frozen_of_row w2 N 3 _ _ HN2.out)
        exact ⟨⟨4, by omega, rfl, HR2.out.set_other _ hgN, HN2.out.set _, HX2.out.set_other _ (by omega), only_new HO2.out (Nat.le_of_lt hNw) _⟩, by simp [intOf]⟩
      · have HNU := Lib.hid (number_st g A l c bs B (rdS bs s0 4) 4 4 _ HRk.out HL.out (by omega) (by have := rdS_le HS0.out 4; have := HL.out; omega) (by omega) (by omega) rfl (HBK.out _ HOk.out))
        have hv : ((rdS bs s0 4).num bs 4).1 = v4 := HV4.out
        rw [hv] at HNU
        have hwd := HWK.out _ HOk.out 4 (by omega)
        rw [show ((widE 4 : Nat) : Int) = 4 from rfl] at hwd
        clear hv
        go_wp2_with (go_at_call 52; refine HNU.out.mono ?_; rintro e w2 ⟨rfl, hr, ho⟩; have HR2 := Lib.hid hr; have HN2 := Lib.hid (HNk.out.only ho hgN.symm); have HX2 := Lib.hid (HXk.out.only ho hgw'); have HO2 := Lib.hid (only_later ho HOk.out); clear hr ho hwd; have hc : w2.cell? ⟨N, 4, none⟩ = some (.int .u32 0) := HN2.out.cell 4; have hf := frozen_of_row w2 N 4 _ _ HN2.out)
        exact ⟨⟨5, by omega, rfl, HR2.out.set_other _ hgN, HN2.out.set _, HX2.out.set_other _ (by omega), only_new HO2.out (Nat.le_of_lt hNw) _⟩, by simp [intOf]⟩
      · have HNU := Lib.hid (number_st g A l c bs B (rdS bs s0 5) 4 4 _ HRk.out HL.out (by omega) (by have := rdS_le HS0.out 5; have := HL.out; omega) (by omega) (by omega) rfl (HBK.out _ HOk.out))
        have hv : ((rdS bs s0 5).num bs 4).1 = v5 := HV5.out
        rw [hv] at HNU
        have hwd := HWK.out _ HOk.out 5 (by omega)
        rw [show ((widE 5 : Nat) : Int) = 4 from rfl] at hwd
        clear hv
        go_wp2_with (go_at_call 52; refine HNU.out.mono ?_; rintro e w2 ⟨rfl, hr, ho⟩; have HR2 := Lib.hid hr; have HN2 := Lib.hid (HNk.out.only ho hgN.symm); have HX2 := Lib.hid (HXk.out.only ho hgw'); have HO2 := Lib.hid (only_later ho HOk.out); clear hr ho hwd; have hc : w2.cell? ⟨N, 5, none⟩ = some (.int .u32 0) := HN2.out.cell 5; have hf := frozen_of_row w2 N 5 _ _ HN2.out)
        exact ⟨⟨6, by omega, rfl, HR2.out.set_other _ hgN, HN2.out.set _, HX2.out.set_other _ (by omega), only_new HO2.out (Nat.le_of_lt hNw) _⟩, by simp [intOf]⟩
    · obtain rfl : k = 6 := by omega
      have HBS := Lib.hid (bytes_st g A l c bs B (rdS bs s0 6) v1 wr.drew HRk.out HL.out (by omega) hlc (by have := rdS_le HS0.out 6; have := HL.out; omega) (HBK.out _ (only_drewN HOk.out 1)) (Nat.le_trans hB HOk.out.size))
      have HBT := Lib.hid (bytes_st g A l c bs B (rdS bs s0 6) v1 (wr.alloc (.cells #[.string ⟨#[]⟩, .int .i64 0, .int .i64 0, .int .i64 0, .int .i64 0, .int .u32 0, .int .i64 0] 34)).drew (show Rd _ _ _ _ _ _ _ from Rd.below HRk.out (w' := wr.alloc (.cells #[.string ⟨#[]⟩, .int .i64 0, .int .i64 0, .int .i64 0, .int .i64 0, .int .u32 0, .int .i64 0] 34)) ((Below.refl wr.heap.size wr).alloc (Nat.le_refl _) _) HRk.out.lt) HL.out (by omega) hlc (by have := rdS_le HS0.out 6; have := HL.out; omega) (HBK.out _ (only_drewN (only_alloc HOk.out _) 1)) (Nat.le_trans hB (Nat.le_trans HOk.out.size (by simp))))
      rw [← HXD.out] at HBS HBT
      obtain ⟨X, hX⟩ : ∃ X, rdX bs s0 = X := ⟨_, rfl⟩
      rw [hX] at HBS HBT HMD
      obtain ⟨T, hT⟩ : ∃ T : ByteArray, (⟨X.1.toArray⟩ : ByteArray) = T := ⟨_, rfl⟩
      have HTS : Hid (X.1.length = T.size) := by show _ = _; rw [← hT]; exact List.size_toArray.symm
      rw [hT, HTS.out] at HMD
      have HT := Lib.hid hT
      have HFM := Lib.hid (fun W => enFrom_any T (v2 : Int) 0 (v4 : Int) (v3 : Int) (v5 : Int) (v0 : Int) W (by rw [← HTS.out, ← hX, HXD.out]; have := row_len_le bs (rdS bs s0 6) v1; have := HL.out; omega) (by omega) (by omega))
      have HX := Lib.hid hX
      clear hX hT
      have HKP : Hid (∀ W, Box W N #[.int .u32 (v0 : Int), .int .u32 (v1 : Int), .int .u32 (v2 : Int), .int .u32 (v3 : Int), .int .u32 (v4 : Int), .int .u32 (v5 : Int)] 50 → (W.cell? ⟨N, 0, none⟩ = some (.int .u32 (v0 : Int)) ∧ W.cell? ⟨N, 1, none⟩ = some (.int .u32 (v1 : Int)) ∧ W.cell? ⟨N, 2, none⟩ = some (.int .u32 (v2 : Int)) ∧ W.cell? ⟨N, 3, none⟩ = some (.int .u32 (v3 : Int)) ∧ W.cell? ⟨N, 4, none⟩ = some (.int .u32 (v4 : Int)) ∧ W.cell? ⟨N, 5, none⟩ = some (.int .u32 (v5 : Int)))) := fun W h => ⟨h.cell 0, h.cell 1, h.cell 2, h.cell 3, h.cell 4, h.cell 5⟩
      have HNw : Hid (Box (wr.drew) N #[.int .u32 (v0 : Int), .int .u32 (v1 : Int), .int .u32 (v2 : Int), .int .u32 (v3 : Int), .int .u32 (v4 : Int), .int .u32 (v5 : Int)] 50) := HNk.out
      have HOw : Hid (Only g w (wr.drew)) := only_drewN HOk.out 1
      have HXw : Hid (Box (wr.drew) w.heap.size #[.string ⟨#[]⟩, .int .i64 0, .int .i64 0, .int .i64 0, .int .i64 0, .int .u32 0, .int .i64 0] 34) := HXk.out
      have HNv : Hid (Box (wr.alloc (.cells #[.string ⟨#[]⟩, .int .i64 0, .int .i64 0, .int .i64 0, .int .i64 0, .int .u32 0, .int .i64 0] 34)).drew N #[.int .u32 (v0 : Int), .int .u32 (v1 : Int), .int .u32 (v2 : Int), .int .u32 (v3 : Int), .int .u32 (v4 : Int), .int .u32 (v5 : Int)] 50) := Box.alloc HNk.out _
      have HOv : Hid (Only g w (wr.alloc (.cells #[.string ⟨#[]⟩, .int .i64 0, .int .i64 0, .int .i64 0, .int .i64 0, .int .u32 0, .int .i64 0] 34)).drew) := only_drewN (only_alloc HOk.out _) 1
      have HXv : Hid (Box (wr.alloc (.cells #[.string ⟨#[]⟩, .int .i64 0, .int .i64 0, .int .i64 0, .int .i64 0, .int .u32 0, .int .i64 0] 34)).drew w.heap.size #[.string ⟨#[]⟩, .int .i64 0, .int .i64 0, .int .i64 0, .int .i64 0, .int .u32 0, .int .i64 0] 34) := Box.alloc HXk.out _
      have HGv : Hid (Box (wr.alloc (.cells #[.string ⟨#[]⟩, .int .i64 0, .int .i64 0, .int .i64 0, .int .i64 0, .int .u32 0, .int .i64 0] 34)).drew wr.heap.size #[.string ⟨#[]⟩, .int .i64 0, .int .i64 0, .int .i64 0, .int .i64 0, .int .u32 0, .int .i64 0] 34) := heap_alloc_new wr _
      have hNG : N ≠ wr.heap.size := by have := HNk.out.lt; omega
      have hwr := HOk.out.size
      have hGW0 : wr.heap.size ≠ w.heap.size := by have := HXk.out.lt; omega
      have hXG : w.heap.size ≠ wr.heap.size := hGW0.symm
      have hgr : wr.heap.size ≠ g := by have := HRk.out.lt; omega
      clear HNk HOk HXk HRk
      go_wp2_with fail
      have hw0 : IntKind.i64.wrap (v0 : Int) = (v0 : Int) := IntWalk.i64_in _ (by omega)
      have hw1 : IntKind.i64.wrap (v1 : Int) = (v1 : Int) := IntWalk.i64_in _ (by omega)
      have hw2 : IntKind.i64.wrap (v2 : Int) = (v2 : Int) := IntWalk.i64_in _ (by omega)
      have hw3 : IntKind.i64.wrap (v3 : Int) = (v3 : Int) := IntWalk.i64_in _ (by omega)
      have hw4 : IntKind.i64.wrap (v4 : Int) = (v4 : Int) := IntWalk.i64_in _ (by omega)
      refine wp_region_held_drew (S := fun w' => w'.cell? ⟨N, 0, none⟩ = some (.int .u32 (v0 : Int)) ∧ w'.cell? ⟨N, 1, none⟩ = some (.int .u32 (v1 : Int)) ∧ w'.cell? ⟨N, 2, none⟩ = some (.int .u32 (v2 : Int)) ∧ w'.cell? ⟨N, 3, none⟩ = some (.int .u32 (v3 : Int)) ∧ w'.cell? ⟨N, 4, none⟩ = some (.int .u32 (v4 : Int)) ∧ w'.cell? ⟨N, 5, none⟩ = some (.int .u32 (v5 : Int))) (by kernel_rfl) (HKP.out _ HNw.out) (fun hHeld => ?_)
      refine wpAnyH_take (i := 0) (oi := _) (v := ?_) rfl (by kernel_rfl) (by kernel_rfl) (by kernel_rfl) (fun _ _ _ h => h) (Or.inl ⟨by rfl, ?_⟩) (by assumption) ?_
      rotate_left
      · (intro w hSw; (try dsimp only at hSw); go_split_ands; go_simp; first | done | with_reducible rfl)
      refine wpAnyH_take (i := 1) (oi := _) (v := ?_) rfl (by kernel_rfl) (by kernel_rfl) (by kernel_rfl) (fun _ _ _ h => h) (Or.inl ⟨by rfl, ?_⟩) (by assumption) ?_
      rotate_left
      · (intro w hSw; (try dsimp only at hSw); go_split_ands; go_simp; first | done | with_reducible rfl)
      refine wpAnyH_take (i := 2) (oi := _) (v := ?_) rfl (by kernel_rfl) (by kernel_rfl) (by kernel_rfl) (fun _ _ _ h => h) (Or.inl ⟨by rfl, ?_⟩) (by assumption) ?_
      rotate_left
      · (intro w hSw; (try dsimp only at hSw); go_split_ands; go_simp; first | done | with_reducible rfl)
      refine wpAnyH_take (i := 3) (oi := _) (v := ?_) rfl (by kernel_rfl) (by kernel_rfl) (by kernel_rfl) (fun _ _ _ h => h) (Or.inl ⟨by rfl, ?_⟩) (by assumption) ?_
      rotate_left
      · (intro w hSw; (try dsimp only at hSw); go_split_ands; go_simp; first | done | with_reducible rfl)
      refine wpAnyH_take (i := 6) (oi := _) (v := ?_) rfl (by kernel_rfl) (by kernel_rfl) (by kernel_rfl) (fun _ _ _ h => h) (Or.inl ⟨by rfl, ?_⟩) (by assumption) ?_
      rotate_left
      · (intro w hSw; (try dsimp only at hSw); go_split_ands; go_simp; first | done | with_reducible rfl)
      refine wpAnyH_take (i := 7) (oi := _) (v := ?_) rfl (by kernel_rfl) (by kernel_rfl) (by kernel_rfl) (fun _ _ _ h => h) (Or.inl ⟨by rfl, ?_⟩) (by assumption) ?_
      rotate_left
      · (intro w hSw; (try dsimp only at hSw); go_split_ands; go_simp; first | done | with_reducible rfl)
      refine wpAnyH_take (i := 8) (oi := _) (v := ?_) rfl (by kernel_rfl) (by kernel_rfl) (by kernel_rfl) (fun _ _ _ h => h) (Or.inl ⟨by rfl, ?_⟩) (by assumption) ?_
      rotate_left
      · (intro w hSw; (try dsimp only at hSw); go_split_ands; go_simp; first | done | with_reducible rfl)
      refine wpAnyH_take (i := 9) (oi := _) (v := ?_) rfl (by kernel_rfl) (by kernel_rfl) (by kernel_rfl) (fun _ _ _ h => h) (Or.inl ⟨by rfl, ?_⟩) (by assumption) ?_
      rotate_left
      · (intro w hSw; (try dsimp only at hSw); go_split_ands; go_simp; first | done | with_reducible rfl)
      refine wpAnyH_take (i := 10) (oi := _) (v := ?_) rfl (by kernel_rfl) (by kernel_rfl) (by kernel_rfl) (fun _ _ _ h => h) (Or.inl ⟨by rfl, ?_⟩) (by assumption) ?_
      rotate_left
      · (intro w hSw; (try dsimp only at hSw); go_split_ands; go_simp; first | done | with_reducible rfl)
      refine wpAnyH_take (i := 11) (oi := _) (v := ?_) rfl (by kernel_rfl) (by kernel_rfl) (by kernel_rfl) (fun _ _ _ h => h) (Or.inl ⟨by rfl, ?_⟩) (by assumption) ?_
      rotate_left
      · (intro w hSw; (try dsimp only at hSw); go_split_ands; go_simp; first | done | with_reducible rfl)
      refine wpAnyH_take (i := 12) (oi := _) (v := ?_) rfl (by kernel_rfl) (by kernel_rfl) (by kernel_rfl) (fun _ _ _ h => h) (Or.inl ⟨by rfl, ?_⟩) (by assumption) ?_
      rotate_left
      · (intro w hSw; (try dsimp only at hSw); go_split_ands; go_simp; first | done | with_reducible rfl)
      refine wpAnyH_take (i := 13) (oi := _) (v := ?_) rfl (by kernel_rfl) (by kernel_rfl) (by kernel_rfl) (fun _ _ _ h => h) (Or.inl ⟨by rfl, ?_⟩) (by assumption) ?_
      rotate_left
      · (intro w hSw; (try dsimp only at hSw); go_split_ands; go_simp; first | done | with_reducible rfl)
      refine wpAnyH_take (i := 14) (oi := _) (v := ?_) rfl (by kernel_rfl) (by kernel_rfl) (by kernel_rfl) (fun _ _ _ h => h) (Or.inl ⟨by rfl, ?_⟩) (by assumption) ?_
      rotate_left
      · (intro w hSw; (try dsimp only at hSw); go_split_ands; go_simp; first | done | with_reducible rfl)
      refine wpAnyH_take (i := 15) (oi := _) (v := ?_) rfl (by kernel_rfl) (by kernel_rfl) (by kernel_rfl) (fun _ _ _ h => h) (Or.inl ⟨by rfl, ?_⟩) (by assumption) ?_
      rotate_left
      · (intro w hSw; (try dsimp only at hSw); go_split_ands; go_simp; first | done | with_reducible rfl)
      refine wpAnyH_take (i := 16) (oi := _) (v := ?_) rfl (by kernel_rfl) (by kernel_rfl) (by kernel_rfl) (fun _ _ _ h => h) (Or.inl ⟨by rfl, ?_⟩) (by assumption) ?_
      rotate_left
      · (intro w hSw; (try dsimp only at hSw); go_split_ands; go_simp; first | done | with_reducible rfl)
      refine wpAnyH_take (i := 17) (oi := _) (v := ?_) rfl (by kernel_rfl) (by kernel_rfl) (by kernel_rfl) (fun _ _ _ h => h) (Or.inl ⟨by rfl, ?_⟩) (by assumption) ?_
      rotate_left
      · (intro w hSw; (try dsimp only at hSw); go_split_ands; go_simp; first | done | with_reducible rfl)
      refine wpAnyH_take (i := 18) (oi := _) (v := ?_) rfl (by kernel_rfl) (by kernel_rfl) (by kernel_rfl) (fun _ _ _ h => h) (Or.inl ⟨by rfl, ?_⟩) (by assumption) ?_
      rotate_left
      · (intro w hSw; (try dsimp only at hSw); go_split_ands; go_simp; first | done | with_reducible rfl)
      refine wpAnyH_take (i := 19) (oi := _) (v := ?_) rfl (by kernel_rfl) (by kernel_rfl) (by kernel_rfl) (fun _ _ _ h => h) (Or.inl ⟨by rfl, ?_⟩) (by assumption) ?_
      rotate_left
      · (intro w hSw; (try dsimp only at hSw); go_split_ands; go_simp; first | done | with_reducible rfl)
      refine wpAnyH_ready (rs := [4, 21]) (by kernel_rfl) (by simp) ?_
      refine AllReadyH.cons (o := _) rfl (fun K hK => ?_) ?_
      · go_simp
        refine HBS.out.mono ?_
        rintro e w2 ⟨A', m, kk, rfl, hown, hr, ho⟩
        have HR2 := Lib.hid hr
        have HN2 := Lib.hid (HNw.out.only ho hgN.symm)
        have HX2 := Lib.hid (HXw.out.only ho hgw')
        have HO2 := Lib.hid (only_later ho HOw.out)
        have hxl := (OwnT.of hown).1
        rw [byteCells_length] at hxl
        have HOW := Lib.hid (OwnT.of hown)
        have HCT : Hid (∀ W, Cells W W.heap.size A' (byteCells X.1) → (convert 25 9 (.slice A' m kk)).run Tryd.prog W = .ok (.string T) W) := fun W h => by rw [← HT.out]; exact HCV.out W A' m kk _ _ h hxl
        clear hr ho hown hxl
        refine hK.out _ _ (HKP.out _ HN2.out) (fun hHeld => ?_)
        clear hK K hHeld
        refine wpAnyH_stronger (S2 := fun w' => (w'.cell? ⟨N, 0, none⟩ = some (.int .u32 (v0 : Int)) ∧ w'.cell? ⟨N, 1, none⟩ = some (.int .u32 (v1 : Int)) ∧ w'.cell? ⟨N, 2, none⟩ = some (.int .u32 (v2 : Int)) ∧ w'.cell? ⟨N, 3, none⟩ = some (.int .u32 (v3 : Int)) ∧ w'.cell? ⟨N, 4, none⟩ = some (.int .u32 (v4 : Int)) ∧ w'.cell? ⟨N, 5, none⟩ = some (.int .u32 (v5 : Int))) ∧ (convert 25 9 (.slice A' m kk)).run Tryd.prog w' = .ok (.string T) w') (fun _ h => h.1) ?_
        have hHeld : (fun w' => (w'.cell? ⟨N, 0, none⟩ = some (.int .u32 (v0 : Int)) ∧ w'.cell? ⟨N, 1, none⟩ = some (.int .u32 (v1 : Int)) ∧ w'.cell? ⟨N, 2, none⟩ = some (.int .u32 (v2 : Int)) ∧ w'.cell? ⟨N, 3, none⟩ = some (.int .u32 (v3 : Int)) ∧ w'.cell? ⟨N, 4, none⟩ = some (.int .u32 (v4 : Int)) ∧ w'.cell? ⟨N, 5, none⟩ = some (.int .u32 (v5 : Int))) ∧ (convert 25 9 (.slice A' m kk)).run Tryd.prog w' = .ok (.string T) w') w2 := ⟨HKP.out _ HN2.out, HCT.out _ HOW.out.cells⟩
        refine wpAnyH_take (i := 5) (oi := _) (v := ?_) rfl (by kernel_rfl) (by kernel_rfl) (by kernel_rfl) (fun _ _ _ h => h) (Or.inl ⟨by rfl, ?_⟩) (by assumption) ?_
        rotate_left
        · (intro w hSw; (try dsimp only at hSw); go_split_ands; go_simp; first | done | with_reducible rfl)
        refine wpAnyH_take (i := 20) (oi := _) (v := ?_) rfl (by kernel_rfl) (by kernel_rfl) (by kernel_rfl) (fun _ _ _ h => h) (Or.inl ⟨by rfl, ?_⟩) (by assumption) ?_
        rotate_left
        · (intro w hSw; (try dsimp only at hSw); go_split_ands; go_simp; first | done | with_reducible rfl)
        refine wpAnyH_ready (rs := [21]) (by kernel_rfl) (by simp) ?_
        refine AllReadyH.cons (o := _) rfl (fun K hK => ?_) ?_
        · go_simp
          refine hK.out _ _ ⟨HKP.out _ (Box.alloc HN2.out _), HCT.out _ (OwnT.alloc HOW.out _).cells⟩ (fun hHeld => ?_)
          clear hK K
          refine wpAnyH_ready (rs := [22]) (by kernel_rfl) (by simp) ?_
          refine AllReadyH.cons (o := _) rfl (fun K hK => ?_) ?_
          · go_simp
            refine hK.out _ _ ⟨HKP.out _ (Box.alloc HN2.out _), HCT.out _ (OwnT.alloc HOW.out _).cells⟩ (fun hHeld => ?_)
            clear hK K hHeld
            refine wpAnyH_done (by kernel_rfl) ?_ _
            go_wp2_with fail
            have hGW : w2.heap.size ≠ w.heap.size := by have := HX2.out.lt; omega
            have hgG : g ≠ w2.heap.size := by have := HR2.out.lt; omega
            have hwG : w.heap.size ≤ w2.heap.size := HO2.out.size
            have HG3 : Hid (Box (w2.alloc (.cells #[.string T, .int .i64 (v2 : Int), .int .i64 0, .int .i64 (v4 : Int), .int .i64 (v3 : Int), .int .u32 (v5 : Int), .int .i64 (v0 : Int)] 34)) w2.heap.size #[.string T, .int .i64 (v2 : Int), .int .i64 0, .int .i64 (v4 : Int), .int .i64 (v3 : Int), .int .u32 (v5 : Int), .int .i64 (v0 : Int)] 34) := heap_alloc_new w2 _
            have HX3 := Lib.hid (Box.alloc HX2.out (.cells #[.string T, .int .i64 (v2 : Int), .int .i64 0, .int .i64 (v4 : Int), .int .i64 (v3 : Int), .int .u32 (v5 : Int), .int .i64 (v0 : Int)] 34))
            have HR3 := Lib.hid ((show Rd (w2.alloc (.cells #[.string T, .int .i64 (v2 : Int), .int .i64 0, .int .i64 (v4 : Int), .int .i64 (v3 : Int), .int .u32 (v5 : Int), .int .i64 (v0 : Int)] 34)) _ _ _ _ _ _ from Rd.below HR2.out ((Below.refl w2.heap.size w2).alloc (Nat.le_refl _) _) HR2.out.lt))
            have HO3 := Lib.hid (only_alloc HO2.out (.cells #[.string T, .int .i64 (v2 : Int), .int .i64 0, .int .i64 (v4 : Int), .int .i64 (v3 : Int), .int .u32 (v5 : Int), .int .i64 (v0 : Int)] 34))
            refine (HFM.out _).mono ?_
            rintro e w5 ⟨rfl, hb⟩
            have HG5 : Hid (Box w5 w2.heap.size #[.string T, .int .i64 (v2 : Int), .int .i64 0, .int .i64 (v4 : Int), .int .i64 (v3 : Int), .int .u32 (v5 : Int), .int .i64 (v0 : Int)] 34) := HG3.out.below hb HG3.out.lt
            have HX5 : Hid (Box w5 w.heap.size #[.string ⟨#[]⟩, .int .i64 0, .int .i64 0, .int .i64 0, .int .i64 0, .int .u32 0, .int .i64 0] 34) := HX3.out.below hb HX3.out.lt
            have HR5 : Hid (RdS w5 g A l c X.2) := Rd.below HR3.out hb HR3.out.lt
            have HO5 : Hid (Only g w w5) := only_grown HO3.out hb
            clear hb HG3 HX3 HR3 HO3
            have p0 : w5.cell? ⟨w2.heap.size, 0, none⟩ = _ := HG5.out.cell 0
            have q0 : w5.cell? ⟨w.heap.size, 0, none⟩ = _ := HX5.out.cell 0
            have r0 := frozen_of_row w5 w.heap.size 0 _ _ HX5.out
            have p1 : w5.cell? ⟨w2.heap.size, 1, none⟩ = _ := HG5.out.cell 1
            have q1 : w5.cell? ⟨w.heap.size, 1, none⟩ = _ := HX5.out.cell 1
            have r1 := frozen_of_row w5 w.heap.size 1 _ _ HX5.out
            have p2 : w5.cell? ⟨w2.heap.size, 2, none⟩ = _ := HG5.out.cell 2
            have q2 : w5.cell? ⟨w.heap.size, 2, none⟩ = _ := HX5.out.cell 2
            have r2 := frozen_of_row w5 w.heap.size 2 _ _ HX5.out
            have p3 : w5.cell? ⟨w2.heap.size, 3, none⟩ = _ := HG5.out.cell 3
            have q3 : w5.cell? ⟨w.heap.size, 3, none⟩ = _ := HX5.out.cell 3
            have r3 := frozen_of_row w5 w.heap.size 3 _ _ HX5.out
            have p4 : w5.cell? ⟨w2.heap.size, 4, none⟩ = _ := HG5.out.cell 4
            have q4 : w5.cell? ⟨w.heap.size, 4, none⟩ = _ := HX5.out.cell 4
            have r4 := frozen_of_row w5 w.heap.size 4 _ _ HX5.out
            have p5 : w5.cell? ⟨w2.heap.size, 5, none⟩ = _ := HG5.out.cell 5
            have q5 : w5.cell? ⟨w.heap.size, 5, none⟩ = _ := HX5.out.cell 5
            have r5 := frozen_of_row w5 w.heap.size 5 _ _ HX5.out
            have p6 : w5.cell? ⟨w2.heap.size, 6, none⟩ = _ := HG5.out.cell 6
            have q6 : w5.cell? ⟨w.heap.size, 6, none⟩ = _ := HX5.out.cell 6
            have r6 := frozen_of_row w5 w.heap.size 6 _ _ HX5.out
            have r9 := frozen_of_row w5 w2.heap.size 2 _ _ HG5.out
            have hGX : w2.heap.size ≠ w.heap.size := hGW
            go_wp2
            refine bodyPost_ret (v := .agg #[.string T, .int .i64 (v2 : Int), .int .i64 ((v2 : Int) + (22 + (T.size : Int))), .int .i64 (v4 : Int), .int .i64 (v3 : Int), .int .u32 (v5 : Int), .int .i64 (v0 : Int)]) (by simp [results, Tryd.results40, q0, q1, q2, q3, q4, q5, q6, go_sem]) rfl ⟨by rw [HMD.out], ?_, ?_⟩
            · rw [HX.out]
              exact ((((((((HR5.out.set_other _ hgG).set_other _ hgw'.symm).set_other _ hgw'.symm).set_other _ hgw'.symm).set_other _ hgw'.symm).set_other _ hgw'.symm).set_other _ hgw'.symm).set_other _ hgw'.symm)
            · exact (only_new (only_new (only_new (only_new (only_new (only_new (only_new (only_new HO5.out hwG _) (Nat.le_refl _) _) (Nat.le_refl _) _) (Nat.le_refl _) _) (Nat.le_refl _) _) (Nat.le_refl _) _) (Nat.le_refl _) _) (Nat.le_refl _) _)
          · exact AllReadyH.nil
        · exact AllReadyH.nil
      · refine AllReadyH.cons (o := _) rfl (fun K hK => ?_) ?_
        · go_simp
          refine hK.out _ _ (HKP.out _ HNv.out) (fun hHeld => ?_)
          clear hK K
          refine wpAnyH_ready (rs := [4]) (by kernel_rfl) (by simp) ?_
          refine AllReadyH.cons (o := _) rfl (fun K hK => ?_) ?_
          · go_simp
            refine HBT.out.mono ?_
            rintro e w2 ⟨A', m, kk, rfl, hown, hr, ho⟩
            have HR2 := Lib.hid hr
            have HN2 := Lib.hid (HNv.out.only ho hgN.symm)
            have HX2 := Lib.hid (HXv.out.only ho hgw')
            have HO2 := Lib.hid (only_later ho HOv.out)
            have HG2 := Lib.hid (HGv.out.only ho hgr)
            have g0 : w2.cell? ⟨wr.heap.size, 0, none⟩ = _ := HG2.out.cell 0
            have f0 := frozen_of_row w2 wr.heap.size 0 _ _ HG2.out
            have g1 : w2.cell? ⟨wr.heap.size, 1, none⟩ = _ := HG2.out.cell 1
            have f1 := frozen_of_row w2 wr.heap.size 1 _ _ HG2.out
            have g2 : w2.cell? ⟨wr.heap.size, 2, none⟩ = _ := HG2.out.cell 2
            have f2 := frozen_of_row w2 wr.heap.size 2 _ _ HG2.out
            have g3 : w2.cell? ⟨wr.heap.size, 3, none⟩ = _ := HG2.out.cell 3
            have f3 := frozen_of_row w2 wr.heap.size 3 _ _ HG2.out
            have g4 : w2.cell? ⟨wr.heap.size, 4, none⟩ = _ := HG2.out.cell 4
            have f4 := frozen_of_row w2 wr.heap.size 4 _ _ HG2.out
            have g5 : w2.cell? ⟨wr.heap.size, 5, none⟩ = _ := HG2.out.cell 5
            have f5 := frozen_of_row w2 wr.heap.size 5 _ _ HG2.out
            have g6 : w2.cell? ⟨wr.heap.size, 6, none⟩ = _ := HG2.out.cell 6
            have f6 := frozen_of_row w2 wr.heap.size 6 _ _ HG2.out
            have hxl := (OwnT.of hown).1
            rw [byteCells_length] at hxl
            have HOW := Lib.hid (OwnT.of hown)
            have HCT : Hid (∀ W, Cells W W.heap.size A' (byteCells X.1) → (convert 25 9 (.slice A' m kk)).run Tryd.prog W = .ok (.string T) W) := fun W h => by rw [← HT.out]; exact HCV.out W A' m kk _ _ h hxl
            clear hr ho hown hxl
            refine hK.out _ _ (HKP.out _ HN2.out) (fun hHeld => ?_)
            clear hK K hHeld
            refine wpAnyH_stronger (S2 := fun w' => (w'.cell? ⟨N, 0, none⟩ = some (.int .u32 (v0 : Int)) ∧ w'.cell? ⟨N, 1, none⟩ = some (.int .u32 (v1 : Int)) ∧ w'.cell? ⟨N, 2, none⟩ = some (.int .u32 (v2 : Int)) ∧ w'.cell? ⟨N, 3, none⟩ = some (.int .u32 (v3 : Int)) ∧ w'.cell? ⟨N, 4, none⟩ = some (.int .u32 (v4 : Int)) ∧ w'.cell? ⟨N, 5, none⟩ = some (.int .u32 (v5 : Int))) ∧ (convert 25 9 (.slice A' m kk)).run Tryd.prog w' = .ok (.string T) w') (fun _ h => h.1) ?_
            have hHeld : (fun w' => (w'.cell? ⟨N, 0, none⟩ = some (.int .u32 (v0 : Int)) ∧ w'.cell? ⟨N, 1, none⟩ = some (.int .u32 (v1 : Int)) ∧ w'.cell? ⟨N, 2, none⟩ = some (.int .u32 (v2 : Int)) ∧ w'.cell? ⟨N, 3, none⟩ = some (.int .u32 (v3 : Int)) ∧ w'.cell? ⟨N, 4, none⟩ = some (.int .u32 (v4 : Int)) ∧ w'.cell? ⟨N, 5, none⟩ = some (.int .u32 (v5 : Int))) ∧ (convert 25 9 (.slice A' m kk)).run Tryd.prog w' = .ok (.string T) w') w2 := ⟨HKP.out _ HN2.out, HCT.out _ HOW.out.cells⟩
            refine wpAnyH_take (i := 5) (oi := _) (v := ?_) rfl (by kernel_rfl) (by kernel_rfl) (by kernel_rfl) (fun _ _ _ h => h) (Or.inl ⟨by rfl, ?_⟩) (by assumption) ?_
            rotate_left
            · (intro w hSw; (try dsimp only at hSw); go_split_ands; go_simp; first | done | with_reducible rfl)
            refine wpAnyH_take (i := 20) (oi := _) (v := ?_) rfl (by kernel_rfl) (by kernel_rfl) (by kernel_rfl) (fun _ _ _ h => h) (Or.inl ⟨by rfl, ?_⟩) (by assumption) ?_
            rotate_left
            · (intro w hSw; (try dsimp only at hSw); go_split_ands; go_simp; first | done | with_reducible rfl)
            refine wpAnyH_ready (rs := [22]) (by kernel_rfl) (by simp) ?_
            refine AllReadyH.cons (o := _) rfl (fun K hK => ?_) ?_
            · have hm7 := (Mod.set (Mod.set (Mod.set (Mod.set (Mod.set (Mod.set (Mod.set (Mod.refl (oneB wr.heap.size) w2) ⟨wr.heap.size, 0, none⟩ (.string T) (.inl rfl)) ⟨wr.heap.size, 1, none⟩ (.int .i64 (v2 : Int)) (.inl rfl)) ⟨wr.heap.size, 2, none⟩ (.int .i64 0) (.inl rfl)) ⟨wr.heap.size, 3, none⟩ (.int .i64 (v4 : Int)) (.inl rfl)) ⟨wr.heap.size, 4, none⟩ (.int .i64 (v3 : Int)) (.inl rfl)) ⟨wr.heap.size, 5, none⟩ (.int .u32 (v5 : Int)) (.inl rfl)) ⟨wr.heap.size, 6, none⟩ (.int .i64 (v0 : Int)) (.inl rfl))
              go_simp
              refine hK.out _ _ ⟨HKP.out _ (Box.set_other (Box.set_other (Box.set_other (Box.set_other (Box.set_other (Box.set_other (Box.set_other HN2.out _ hNG) _ hNG) _ hNG) _ hNG) _ hNG) _ hNG) _ hNG), HCT.out _ (HOW.out.keep hm7 (fun q hq e => by have := (HOW.out.lt q hq).1; have : q = wr.heap.size := e; simp at *; omega)).cells⟩ (fun hHeld => ?_)
              clear hK K hHeld hm7
              refine wpAnyH_done (by kernel_rfl) ?_ _
              go_wp2_with fail
              have hGW : wr.heap.size ≠ w.heap.size := hGW0
              have hgG : g ≠ wr.heap.size := hgr.symm
              have hwG : w.heap.size ≤ wr.heap.size := hwr
              have HG3 := Lib.hid ((Box.set (i := 6) (Box.set (i := 5) (Box.set (i := 4) (Box.set (i := 3) (Box.set (i := 2) (Box.set (i := 1) (Box.set (i := 0) HG2.out (.string T)) (.int .i64 (v2 : Int))) (.int .i64 0)) (.int .i64 (v4 : Int))) (.int .i64 (v3 : Int))) (.int .u32 (v5 : Int))) (.int .i64 (v0 : Int))))
              have HX3 := Lib.hid ((Box.set_other (g := wr.heap.size) (i := 6) (Box.set_other (g := wr.heap.size) (i := 5) (Box.set_other (g := wr.heap.size) (i := 4) (Box.set_other (g := wr.heap.size) (i := 3) (Box.set_other (g := wr.heap.size) (i := 2) (Box.set_other (g := wr.heap.size) (i := 1) (Box.set_other (g := wr.heap.size) (i := 0) HX2.out (.string T) hXG) (.int .i64 (v2 : Int)) hXG) (.int .i64 0) hXG) (.int .i64 (v4 : Int)) hXG) (.int .i64 (v3 : Int)) hXG) (.int .u32 (v5 : Int)) hXG) (.int .i64 (v0 : Int)) hXG))
              have HR3 := Lib.hid ((RdS.set_other (g := wr.heap.size) (i := 6) (RdS.set_other (g := wr.heap.size) (i := 5) (RdS.set_other (g := wr.heap.size) (i := 4) (RdS.set_other (g := wr.heap.size) (i := 3) (RdS.set_other (g := wr.heap.size) (i := 2) (RdS.set_other (g := wr.heap.size) (i := 1) (RdS.set_other (g := wr.heap.size) (i := 0) HR2.out (.string T) hgr.symm) (.int .i64 (v2 : Int)) hgr.symm) (.int .i64 0) hgr.symm) (.int .i64 (v4 : Int)) hgr.symm) (.int .i64 (v3 : Int)) hgr.symm) (.int .u32 (v5 : Int)) hgr.symm) (.int .i64 (v0 : Int)) hgr.symm))
              have HO3 := Lib.hid ((only_new (N := wr.heap.size) (i := 6) (only_new (N := wr.heap.size) (i := 5) (only_new (N := wr.heap.size) (i := 4) (only_new (N := wr.heap.size) (i := 3) (only_new (N := wr.heap.size) (i := 2) (only_new (N := wr.heap.size) (i := 1) (only_new (N := wr.heap.size) (i := 0) HO2.out hwr (.string T)) hwr (.int .i64 (v2 : Int))) hwr (.int .i64 0)) hwr (.int .i64 (v4 : Int))) hwr (.int .i64 (v3 : Int))) hwr (.int .u32 (v5 : Int))) hwr (.int .i64 (v0 : Int))))
              refine (HFM.out _).mono ?_
              rintro e w5 ⟨rfl, hb⟩
              have HG5 : Hid (Box w5 wr.heap.size #[.string T, .int .i64 (v2 : Int), .int .i64 0, .int .i64 (v4 : Int), .int .i64 (v3 : Int), .int .u32 (v5 : Int), .int .i64 (v0 : Int)] 34) := HG3.out.below hb HG3.out.lt
              have HX5 : Hid (Box w5 w.heap.size #[.string ⟨#[]⟩, .int .i64 0, .int .i64 0, .int .i64 0, .int .i64 0, .int .u32 0, .int .i64 0] 34) := HX3.out.below hb HX3.out.lt
              have HR5 : Hid (RdS w5 g A l c X.2) := Rd.below HR3.out hb HR3.out.lt
              have HO5 : Hid (Only g w w5) := only_grown HO3.out hb
              clear hb HG3 HX3 HR3 HO3
              have p0 : w5.cell? ⟨wr.heap.size, 0, none⟩ = _ := HG5.out.cell 0
              have q0 : w5.cell? ⟨w.heap.size, 0, none⟩ = _ := HX5.out.cell 0
              have r0 := frozen_of_row w5 w.heap.size 0 _ _ HX5.out
              have p1 : w5.cell? ⟨wr.heap.size, 1, none⟩ = _ := HG5.out.cell 1
              have q1 : w5.cell? ⟨w.heap.size, 1, none⟩ = _ := HX5.out.cell 1
              have r1 := frozen_of_row w5 w.heap.size 1 _ _ HX5.out
              have p2 : w5.cell? ⟨wr.heap.size, 2, none⟩ = _ := HG5.out.cell 2
              have q2 : w5.cell? ⟨w.heap.size, 2, none⟩ = _ := HX5.out.cell 2
              have r2 := frozen_of_row w5 w.heap.size 2 _ _ HX5.out
              have p3 : w5.cell? ⟨wr.heap.size, 3, none⟩ = _ := HG5.out.cell 3
              have q3 : w5.cell? ⟨w.heap.size, 3, none⟩ = _ := HX5.out.cell 3
              have r3 := frozen_of_row w5 w.heap.size 3 _ _ HX5.out
              have p4 : w5.cell? ⟨wr.heap.size, 4, none⟩ = _ := HG5.out.cell 4
              have q4 : w5.cell? ⟨w.heap.size, 4, none⟩ = _ := HX5.out.cell 4
              have r4 := frozen_of_row w5 w.heap.size 4 _ _ HX5.out
              have p5 : w5.cell? ⟨wr.heap.size, 5, none⟩ = _ := HG5.out.cell 5
              have q5 : w5.cell? ⟨w.heap.size, 5, none⟩ = _ := HX5.out.cell 5
              have r5 := frozen_of_row w5 w.heap.size 5 _ _ HX5.out
              have p6 : w5.cell? ⟨wr.heap.size, 6, none⟩ = _ := HG5.out.cell 6
              have q6 : w5.cell? ⟨w.heap.size, 6, none⟩ = _ := HX5.out.cell 6
              have r6 := frozen_of_row w5 w.heap.size 6 _ _ HX5.out
              have r9 := frozen_of_row w5 wr.heap.size 2 _ _ HG5.out
              have hGX : wr.heap.size ≠ w.heap.size := hGW
              go_wp2
              refine bodyPost_ret (v := .agg #[.string T, .int .i64 (v2 : Int), .int .i64 ((v2 : Int) + (22 + (T.size : Int))), .int .i64 (v4 : Int), .int .i64 (v3 : Int), .int .u32 (v5 : Int), .int .i64 (v0 : Int)]) (by simp [results, Tryd.results40, q0, q1, q2, q3, q4, q5, q6, go_sem]) rfl ⟨by rw [HMD.out], ?_, ?_⟩
              · rw [HX.out]
                exact ((((((((HR5.out.set_other _ hgG).set_other _ hgw'.symm).set_other _ hgw'.symm).set_other _ hgw'.symm).set_other _ hgw'.symm).set_other _ hgw'.symm).set_other _ hgw'.symm).set_other _ hgw'.symm)
              · exact (only_new (only_new (only_new (only_new (only_new (only_new (only_new (only_new HO5.out hwG _) (Nat.le_refl _) _) (Nat.le_refl _) _) (Nat.le_refl _) _) (Nat.le_refl _) _) (Nat.le_refl _) _) (Nat.le_refl _) _) (Nat.le_refl _) _)
            · exact AllReadyH.nil
          · exact AllReadyH.nil
        · exact AllReadyH.nil
end Go.Proofs.YthnoobhjkhafcaaDoor
