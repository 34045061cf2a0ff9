/- Three numbers between a mark and the sum, read. -/
import Derived.Test.YtnccbnadfgilaaaKSts
namespace Go.Proofs.Ytnccbnadfgilaaa
open Go.RowKit CrcP FieldP

/-- An array of three numbers, of which the first k are read. -/
def arr3 (a b c : Nat) : Nat → Array Value
  | 0 => #[.int .u32 0, .int .u32 0, .int .u32 0]
  | 1 => #[.int .u32 (a : Int), .int .u32 0, .int .u32 0]
  | 2 => #[.int .u32 (a : Int), .int .u32 (b : Int), .int .u32 0]
  | _ => #[.int .u32 (a : Int), .int .u32 (b : Int), .int .u32 (c : Int)]

set_option maxRecDepth 100000 in
set_option maxHeartbeats 1000000 in
theorem take3_arg (tg : Nat) (s : ByteArray) (A : Option Addr) (l c : Nat) (p : Int) (w : World) (h : p < 0 ∨ (l : Int) < p) :
    Calls Try.prog 22 #[.pointer (some ⟨tg, 0, none⟩), .string s, .slice A l c, .int .i64 p] w fun e w' => e = .returned (.tuple #[.agg #[.int .u32 0, .int .u32 0, .int .u32 0], .int .i64 1]) ∧ Below w.heap.size w w' := by
  have HO := Lib.hid (fun W => open_arg s A l c p W h)
  clear h
  go_enter Try.func22, Try.ntmps22
  go_wp2_with (go_at_call 38; refine (HO.out _).mono ?_; rintro e w' ⟨rfl, rfl⟩)
  exact bodyPost_ret (v := .tuple #[.agg #[.int .u32 0, .int .u32 0, .int .u32 0], .int .i64 1]) (by simp [results, Try.results22, go_sem]) rfl ⟨rfl, (Below.refl _ _).alloc (Nat.le_refl _) _⟩
set_option maxRecDepth 100000 in
set_option maxHeartbeats 1000000 in
theorem take3_form (tg : Nat) (s : ByteArray) (A : Option Addr) (l c : Nat) (bs : List UInt8) (B : Nat) (p : Nat) (w : World) (hs : s.size = 4) (hl : bs.length = l) (hm : l ≤ 1099511627776) (hlc : l ≤ c)
    (hb : Bytes w B A bs) (hB : B ≤ w.heap.size) (hp : p + 4 ≤ l) (hi : isB s.data.toList bs p = false) :
    Calls Try.prog 22 #[.pointer (some ⟨tg, 0, none⟩), .string s, .slice A l c, .int .i64 (p : Int)] w fun e w' => e = .returned (.tuple #[.agg #[.int .u32 0, .int .u32 0, .int .u32 0], .int .i64 3]) ∧ Below w.heap.size w w' := by
  have HO := Lib.hid (open_form s A l c bs B p _ hs hl hm hlc (hb.alloc hB (.cells #[.int .u32 0, .int .u32 0, .int .u32 0] 54)) hp hi)
  clear hi hb hs hl
  go_enter Try.func22, Try.ntmps22
  go_wp2_with (go_at_call 38; refine HO.out.mono ?_; rintro e w' ⟨rfl, rfl⟩)
  exact bodyPost_ret (v := .tuple #[.agg #[.int .u32 0, .int .u32 0, .int .u32 0], .int .i64 3]) (by simp [results, Try.results22, go_sem]) rfl ⟨rfl, (Below.refl _ _).alloc (Nat.le_refl _) _⟩

/-- What TakeThree tells where the mark stands, or isn't all there. -/
def threeR (bs : List UInt8) (p : Nat) : Nat := chkN bs p (stK bs (openS bs p) 3)
def take3V (bs : List UInt8) (p : Nat) : Value :=
  .tuple #[.agg (if threeR bs p = 0 then arr3 (vaK bs (openS bs p) 0) (vaK bs (openS bs p) 1) (vaK bs (openS bs p) 2) 3 else #[.int .u32 0, .int .u32 0, .int .u32 0]), .int .i64 (threeR bs p : Nat)]
theorem take3V_good {bs : List UInt8} {p : Nat} (h : threeR bs p = 0) : take3V bs p = .tuple #[.agg #[.int .u32 (vaK bs (openS bs p) 0 : Nat), .int .u32 (vaK bs (openS bs p) 1 : Nat), .int .u32 (vaK bs (openS bs p) 2 : Nat)], .int .i64 0] := by
  unfold take3V
  rw [if_pos h, h]
  rfl
theorem take3V_bad {bs : List UInt8} {p : Nat} (h : threeR bs p ≠ 0) : take3V bs p = .tuple #[.agg #[.int .u32 0, .int .u32 0, .int .u32 0], .int .i64 (threeR bs p : Nat)] := by
  unfold take3V
  rw [if_neg h]
set_option maxRecDepth 100000 in
set_option maxHeartbeats 4000000 in
theorem take3_ok (tg : Nat) (s : ByteArray) (A : Option Addr) (l c : Nat) (bs : List UInt8) (B : Nat) (p : Nat) (w : World) (hT : Table w tg) (hs : s.size = 4) (hl : bs.length = l) (hm : l ≤ 1099511627776) (hlc : l ≤ c)
    (hb : Bytes w B A bs) (hB : B ≤ w.heap.size) (hp : p ≤ l) (hi : p + 4 ≤ l → isB s.data.toList bs p = true) :
    Calls Try.prog 22 #[.pointer (some ⟨tg, 0, none⟩), .string s, .slice A l c, .int .i64 (p : Int)] w fun e w' =>
      e = .returned (take3V bs p) ∧ Below w.heap.size w w' := by
  have HO := Lib.hid (open_ok s A l c bs B p _ hs hl hm hlc (hb.alloc hB (.cells #[.int .u32 0, .int .u32 0, .int .u32 0] 54)) (by simp; omega) hp hi)
  have HT0 := Lib.hid hT
  have HBA := Lib.hid hb
  have HL := Lib.hid hl
  have htl := hT.lt
  have HB0 := Lib.hid ((Below.refl w.heap.size w).alloc (Nat.le_refl _) (.cells #[.int .u32 0, .int .u32 0, .int .u32 0] 54))
  have HX0 : Hid (Box (w.alloc (.cells #[.int .u32 0, .int .u32 0, .int .u32 0] 54)) w.heap.size #[.int .u32 0, .int .u32 0, .int .u32 0] 54) := heap_alloc_new w _
  have HZ0 : Hid ((w.alloc (.cells #[.int .u32 0, .int .u32 0, .int .u32 0] 54)).heap.size = w.heap.size + 1) := by show _ = _; simp
  have HS0 := Lib.hid (openS_le (bs := bs) (p := p) (by omega))
  have HG0 := Lib.hid (openS_ge bs p)
  have HR : Hid (threeR bs p = chkN bs p (stK bs (openS bs p) 3)) := rfl
  have HVG : Hid (threeR bs p = 0 → take3V bs p = .tuple #[.agg #[.int .u32 (vaK bs (openS bs p) 0 : Nat), .int .u32 (vaK bs (openS bs p) 1 : Nat), .int .u32 (vaK bs (openS bs p) 2 : Nat)], .int .i64 0]) := take3V_good
  have HVB : Hid (threeR bs p ≠ 0 → take3V bs p = .tuple #[.agg #[.int .u32 0, .int .u32 0, .int .u32 0], .int .i64 (threeR bs p : Nat)]) := take3V_bad
  clear hi hb hs hl hT
  generalize openS bs p = s0 at *
  generalize hw0 : w.alloc (.cells #[.int .u32 0, .int .u32 0, .int .u32 0] 54) = w0 at *
  go_enter Try.func22, Try.ntmps22
  go_wp2_with (go_at_call 38; refine HO.out.mono ?_; rintro e w1 ⟨g, rfl, hg, hr, hbw⟩; have HR1 := Lib.hid hr; have HB1 := Lib.hid hbw; clear hr hbw)
  have hz0 := HZ0.out
  have hz1 := HB1.out.size
  have hgl := HR1.out.lt
  have HM1 := Lib.hid (HB0.out.trans (HB1.out.mono (by omega)))
  have HX1 := Lib.hid (HX0.out.below HB1.out (by omega))
  have HA1 := Lib.hid ((Below.refl w1.heap.size w1).alloc (Nat.le_refl _) (.cells #[.int .u32 0, .int .u32 0, .int .u32 0] 54))
  have HRs : Hid (RdS (w1.alloc (.cells #[.int .u32 0, .int .u32 0, .int .u32 0] 54)) g A l c s0) := Rd.below HR1.out HA1.out hgl
  have HNs : Hid (Box (w1.alloc (.cells #[.int .u32 0, .int .u32 0, .int .u32 0] 54)) w1.heap.size #[.int .u32 0, .int .u32 0, .int .u32 0] 54) := heap_alloc_new w1 _
  have HXs := Lib.hid (HX1.out.alloc (.cells #[.int .u32 0, .int .u32 0, .int .u32 0] 54))
  have HMs := Lib.hid (HM1.out.trans (HA1.out.mono (by omega)))
  obtain ⟨N, hN⟩ : ∃ N, w1.heap.size = N := ⟨_, rfl⟩
  rw [hN] at HNs hgl
  rw [hN]
  have hNw : w.heap.size + 1 ≤ N := by omega
  clear HR1 HB1 HM1 HX1 HA1 HO HX0 HB0
  generalize hv0 : vaK bs s0 0 = v0 at *
  generalize hv1 : vaK bs s0 1 = v1 at *
  generalize hv2 : vaK bs s0 2 = v2 at *
  have HV0 := Lib.hid hv0
  have HV1 := Lib.hid hv1
  have HV2 := Lib.hid hv2
  clear hv0 hv1 hv2
  go_loopw [13, 26] (fun _ i wr => ∃ k : Nat, k ≤ 3 ∧ i = .int .i64 k ∧ RdS wr g A l c (stK bs s0 k) ∧ Box wr N (arr3 v0 v1 v2 k) 54 ∧ Box wr w.heap.size #[.int .u32 0, .int .u32 0, .int .u32 0] 54 ∧ Below w.heap.size w wr) (fun _ i _ => 3 - (intOf i).toNat)
  case atStart => exact ⟨0, by omega, rfl, HRs.out, HNs.out, HXs.out, HMs.out⟩
  case round =>
    clear HRs HNs HXs HMs
    obtain ⟨k, hk, rfl, hr, hn, hx, hm2⟩ := hrel
    have HRk := Lib.hid hr
    have HNk := Lib.hid hn
    have HXk := Lib.hid hx
    have HMk := Lib.hid hm2
    clear hr hn hx hm2
    have hgN : g ≠ N := by omega
    have hgw : w.heap.size ≠ g := by omega
    by_cases hk3 : k < 3
    · have hk4 : k = 0 ∨ k = 1 ∨ k = 2 := by omega
      rcases hk4 with rfl | rfl | rfl
      · have HNU := Lib.hid (number_st g A l c bs B (stK bs s0 0) 4 4 _ HRk.out HL.out hm (by have := stK_le HS0.out 0; have := HL.out; omega) (by omega) (by omega) rfl (HBA.out.below HMk.out hB))
        have hv : ((stK bs s0 0).num bs 4).1 = v0 := HV0.out
        rw [hv] at HNU
        have hvl : v0 < 4294967296 := by rw [← hv]; exact num_lt (Nat.le_refl _)
        clear hv
        go_wp2_with (go_at_call 29; refine HNU.out.mono ?_; rintro e w2 ⟨rfl, hr, ho⟩; have HR2 := Lib.hid hr; have HN2 := Lib.hid (HNk.out.only ho hgN.symm); have HX2 := Lib.hid (HXk.out.only ho hgw); have HM2 := Lib.hid (only_below ho HMk.out HMk.out.size (by omega)); clear hr ho; have hc : w2.cell? ⟨N, 0, none⟩ = some (.int .u32 0) := HN2.out.cell 0; have hf := frozen_of_row w2 N 0 _ _ HN2.out)
        exact ⟨⟨1, by omega, rfl, HR2.out.set_other _ hgN, HN2.out.set _, HX2.out.set_other _ (by omega), HM2.out.setCell (p := ⟨N, 0, none⟩) (by show w.heap.size ≤ N; omega) _⟩, by simp [intOf]⟩
      · have HNU := Lib.hid (number_st g A l c bs B (stK bs s0 1) 4 4 _ HRk.out HL.out hm (by have := stK_le HS0.out 1; have := HL.out; omega) (by omega) (by omega) rfl (HBA.out.below HMk.out hB))
        have hv : ((stK bs s0 1).num bs 4).1 = v1 := HV1.out
        rw [hv] at HNU
        have hvl : v1 < 4294967296 := by rw [← hv]; exact num_lt (Nat.le_refl _)
        clear hv
        go_wp2_with (go_at_call 29; refine HNU.out.mono ?_; rintro e w2 ⟨rfl, hr, ho⟩; have HR2 := Lib.hid hr; have HN2 := Lib.hid (HNk.out.only ho hgN.symm); have HX2 := Lib.hid (HXk.out.only ho hgw); have HM2 := Lib.hid (only_below ho HMk.out HMk.out.size (by omega)); clear hr ho; have hc : w2.cell? ⟨N, 1, none⟩ = some (.int .u32 0) := HN2.out.cell 1; have hf := frozen_of_row w2 N 1 _ _ HN2.out)
        exact ⟨⟨2, by omega, rfl, HR2.out.set_other _ hgN, HN2.out.set _, HX2.out.set_other _ (by omega), HM2.out.setCell (p := ⟨N, 1, none⟩) (by show w.heap.size ≤ N; omega) _⟩, by simp [intOf]⟩
      · have HNU := Lib.hid (number_st g A l c bs B (stK bs s0 2) 4 4 _ HRk.out HL.out hm (by have := stK_le HS0.out 2; have := HL.out; omega) (by omega) (by omega) rfl (HBA.out.below HMk.out hB))
        have hv : ((stK bs s0 2).num bs 4).1 = v2 := HV2.out
        rw [hv] at HNU
        have hvl : v2 < 4294967296 := by rw [← hv]; exact num_lt (Nat.le_refl _)
        clear hv
        go_wp2_with (go_at_call 29; refine HNU.out.mono ?_; rintro e w2 ⟨rfl, hr, ho⟩; have HR2 := Lib.hid hr; have HN2 := Lib.hid (HNk.out.only ho hgN.symm); have HX2 := Lib.hid (HXk.out.only ho hgw); have HM2 := Lib.hid (only_below ho HMk.out HMk.out.size (by omega)); clear hr ho; have hc : w2.cell? ⟨N, 2, none⟩ = some (.int .u32 0) := HN2.out.cell 2; have hf := frozen_of_row w2 N 2 _ _ HN2.out)
        exact ⟨⟨3, by omega, rfl, HR2.out.set_other _ hgN, HN2.out.set _, HX2.out.set_other _ (by omega), HM2.out.setCell (p := ⟨N, 2, none⟩) (by show w.heap.size ≤ N; omega) _⟩, by simp [intOf]⟩
    · obtain rfl : k = 3 := by omega
      have HCK := Lib.hid (check_any tg g A l c bs B p (stK bs s0 3) _ (HT0.out.below HMk.out htl) HRk.out HL.out hm hlc (by have := stK_le HS0.out 3; have := HL.out; omega) (Nat.le_trans HG0.out (stK_ge bs s0 3)) (HBA.out.below HMk.out hB) (by omega))
      rw [← HR.out] at HCK
      clear HR HS0 HG0 HV0 HV1 HV2
      obtain ⟨r, hr⟩ : ∃ r, threeR bs p = r := ⟨_, rfl⟩
      have HRQ := Lib.hid hr
      rw [hr] at HCK
      clear hr
      by_cases hr0 : r = 0
      · subst hr0
        go_wp2_with (go_at_call 39; refine HCK.out.mono ?_; rintro e w2 ⟨rfl, _, ho⟩; have HN2 := Lib.hid (HNk.out.only ho hgN.symm); have HX2 := Lib.hid (HXk.out.only ho hgw); have HM2 := Lib.hid (only_below ho HMk.out HMk.out.size (by omega)); clear ho; have hc0 : w2.cell? ⟨N, 0, none⟩ = some (.int .u32 (v0 : Int)) := HN2.out.cell 0; have hc1 : w2.cell? ⟨N, 1, none⟩ = some (.int .u32 (v1 : Int)) := HN2.out.cell 1; have hc2 : w2.cell? ⟨N, 2, none⟩ = some (.int .u32 (v2 : Int)) := HN2.out.cell 2; have hx0 : w2.cell? ⟨w.heap.size, 0, none⟩ = some (.int .u32 0) := HX2.out.cell 0; have hx1 : w2.cell? ⟨w.heap.size, 1, none⟩ = some (.int .u32 0) := HX2.out.cell 1; have hx2 : w2.cell? ⟨w.heap.size, 2, none⟩ = some (.int .u32 0) := HX2.out.cell 2; have hf0 := frozen_of_row w2 w.heap.size 0 _ _ HX2.out; have hf1 := frozen_of_row w2 w.heap.size 1 _ _ HX2.out; have hf2 := frozen_of_row w2 w.heap.size 2 _ _ HX2.out)
        refine bodyPost_ret (v := .tuple #[.agg #[.int .u32 (v0 : Int), .int .u32 (v1 : Int), .int .u32 (v2 : Int)], .int .i64 0]) (by simp [results, Try.results22, hx0, hx1, hx2, go_sem]) rfl ⟨by rw [HVG.out HRQ.out], ?_⟩
        exact ((HM2.out.setCell (p := ⟨w.heap.size, 0, none⟩) (Nat.le_refl _) _).setCell (p := ⟨w.heap.size, 1, none⟩) (Nat.le_refl _) _).setCell (p := ⟨w.heap.size, 2, none⟩) (Nat.le_refl _) _
      · have hne : ((r : Int) != 0) = true := by simp; omega
        go_wp2_with (go_at_call 39; refine HCK.out.mono ?_; rintro e w2 ⟨rfl, _, ho⟩; have HX2 := Lib.hid (HXk.out.only ho hgw); have HM2 := Lib.hid (only_below ho HMk.out HMk.out.size (by omega)); clear ho; have hx0 : w2.cell? ⟨w.heap.size, 0, none⟩ = some (.int .u32 0) := HX2.out.cell 0; have hx1 : w2.cell? ⟨w.heap.size, 1, none⟩ = some (.int .u32 0) := HX2.out.cell 1; have hx2 : w2.cell? ⟨w.heap.size, 2, none⟩ = some (.int .u32 0) := HX2.out.cell 2; have hf0 := frozen_of_row w2 w.heap.size 0 _ _ HX2.out; have hf1 := frozen_of_row w2 w.heap.size 1 _ _ HX2.out; have hf2 := frozen_of_row w2 w.heap.size 2 _ _ HX2.out)
        refine bodyPost_ret (v := .tuple #[.agg #[.int .u32 0, .int .u32 0, .int .u32 0], .int .i64 (r : Int)]) (by simp [results, Try.results22, hx0, hx1, hx2, go_sem]) rfl ⟨by rw [HVB.out (by rw [HRQ.out]; exact hr0), HRQ.out], ?_⟩
        exact ((HM2.out.setCell (p := ⟨w.heap.size, 0, none⟩) (Nat.le_refl _) _).setCell (p := ⟨w.heap.size, 1, none⟩) (Nat.le_refl _) _).setCell (p := ⟨w.heap.size, 2, none⟩) (Nat.le_refl _) _
end Go.Proofs.Ytnccbnadfgilaaa
