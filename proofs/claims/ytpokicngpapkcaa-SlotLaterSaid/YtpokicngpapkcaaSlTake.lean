/- Layer 21: slots are taken. -/
import Derived.Test.YtpokicngpapkcaaSlPut
namespace Go.Proofs.Ytpokicngpapkcaa
open Go.RowKit CrcP FieldP
attribute [local go_sem ↓] Go.wp_at_zero Go.wp_at_succ

def slText : ByteArray := ⟨#[83, 76, 79, 84]⟩
theorem slText_list : slText.data.toList = slMark := rfl
/-- The numbers of any 512 bytes, and whether the flag stands there. -/
def slN (bs : List UInt8) (k : Nat) : Nat := val ((bs.drop (4 + 4 * k)).take 4)
def slF (bs : List UInt8) : Nat := val ((bs.drop 16).take 1)
def slGood (bs : List UInt8) : Bool := decide (slF bs ≤ 1) && (bs.drop 21).all (fun x => decide (x = 0)) && slB (slN bs 0) (slN bs 1) (slN bs 2) (decide (slF bs = 1))
/-- What Take tells of them. -/
def slE (bs : List UInt8) : Nat := if bs.take 4 = slMark then (if val ((bs.drop 17).take 4) = sumN (bs.take 17) then (if slGood bs = true then 0 else 3) else 4) else 3
def slV (bs : List UInt8) : Value :=
  .tuple #[.agg (if slE bs = 0 then slC (slN bs 0) (slN bs 1) (slN bs 2) (decide (slF bs = 1)) else #[.int .i64 0, .int .i64 0, .int .i64 0, .bool false]), .int .i64 (slE bs : Nat)]
theorem slV_good {bs : List UInt8} (h : slE bs = 0) : slV bs = .tuple #[.agg #[.int .i64 (slN bs 0 : Nat), .int .i64 (slN bs 1 : Nat), .int .i64 (slN bs 2 : Nat), .bool (decide (slF bs = 1))], .int .i64 0] := by
  unfold slV
  rw [if_pos h, h]
  rfl
theorem slV_bad {bs : List UInt8} (h : slE bs ≠ 0) : slV bs = .tuple #[.agg #[.int .i64 0, .int .i64 0, .int .i64 0, .bool false], .int .i64 (slE bs : Nat)] := by
  unfold slV
  rw [if_neg h]
theorem set4 {B : Nat} {W w : World} {g : Nat} (h : Below B W w) (hg : B ≤ g) (a b c d : Value) : Below B W ((((w.setCell ⟨g, 0, none⟩ a).setCell ⟨g, 1, none⟩ b).setCell ⟨g, 2, none⟩ c).setCell ⟨g, 3, none⟩ d) :=
  (((h.setCell (p := ⟨g, 0, none⟩) hg _).setCell (p := ⟨g, 1, none⟩) hg _).setCell (p := ⟨g, 2, none⟩) hg _).setCell (p := ⟨g, 3, none⟩) hg _
/-- An array of three numbers, of which the first k are read. -/
def arr21 (a b c : Nat) : Nat → Array Value
  | 0 => #[.int .u32 0, .int .u32 0, .int .u32 0]
  | 1 => #[.int .u32 (a : Int), .int .u32 0, .int .u32 0]
  | 2 => #[.int .u32 (a : Int), .int .u32 (b : Int), .int .u32 0]
  | _ => #[.int .u32 (a : Int), .int .u32 (b : Int), .int .u32 (c : Int)]

set_option maxHeartbeats 400000 in
theorem empty_any (A : Option Addr) (l c : Nat) (bs : List UInt8) (B : Nat) (w : World) (hl : bs.length = l) (hm : l ≤ 1099511627776) (hb : Bytes w B A bs) :
    Calls Try.prog 30 #[.slice A l c] w fun e w' => e = .returned (.bool (bs.all (fun x => decide (x = 0)))) ∧ w = w' := by
  have HB := Lib.hid hb
  have HL := Lib.hid hl
  have HALL : Hid ((∀ x ∈ bs, x = 0) → bs.all (fun x => decide (x = 0)) = true) := fun h => List.all_eq_true.2 (fun x hx => decide_eq_true (h x hx))
  have HNOT : Hid (∀ x ∈ bs, x ≠ 0 → bs.all (fun x => decide (x = 0)) = false) := fun x hx h => List.all_eq_false.2 ⟨x, hx, by simpa using h⟩
  clear hb hl
  generalize bs.all (fun x => decide (x = 0)) = o at *
  go_enter Try.func30, Try.ntmps30
  go_wp2
  go_loopg [4, 7] l (fun gk _ i wr => ∃ k : Nat, k + gk = l ∧ i = .int .i64 k ∧ wr = w ∧ ∀ x ∈ bs.take k, x = 0)
  case atStart => exact ⟨0, by omega, rfl, rfl, fun x hx => by rw [List.take_zero] at hx; cases hx⟩
  case round =>
    obtain ⟨k, hk, rfl, rfl, hz⟩ := hrel
    have HZ := Lib.hid hz
    clear hz
    by_cases h : k < l
    · obtain ⟨x, hx⟩ : ∃ x, bs[k]? = some x := ⟨_, List.getElem?_eq_getElem (by rw [HL.out]; exact h)⟩
      obtain ⟨g, q, rfl, _, hc⟩ := HB.out (by rw [byteCells_length, HL.out]; omega)
      have c0 : wr.cell? ⟨g, q + k, none⟩ = some (.int .u8 (x.toNat : Int)) := hc k _ (by unfold byteCells; rw [List.getElem?_map, hx]; rfl)
      have HX := Lib.hid hx
      clear hc hx
      by_cases h0 : x.toNat = 0
      · have hd : ((x.toNat : Int) != 0) = false := by simp [h0]
        have HX0 : Hid (x = 0) := UInt8.toNat_inj.1 h0
        clear h0
        go_wp2
        go_roundg (gk - 1)
        case measure => omega
        case rel => exact ⟨k + 1, by omega, by go_num, rfl, fun y hy => by
          rw [List.take_add_one, HX.out] at hy
          rcases List.mem_append.1 hy with hy | hy
          · exact HZ.out y hy
          · have : y = x := by simpa using hy
            rw [this]; exact HX0.out⟩
      · have hd : ((x.toNat : Int) != 0) = true := by simp; omega
        have HO : Hid (o = false) := HNOT.out x (List.mem_of_getElem? HX.out) (fun e => h0 (by rw [e]; rfl))
        clear h0
        go_wp2
        go_ret
        exact ⟨by rw [HO.out]; rfl, rfl⟩
    · obtain rfl : k = l := by omega
      have HO : Hid (o = true) := HALL.out (fun x hx => HZ.out x (by rw [List.take_of_length_le (by rw [HL.out]; exact Nat.le_refl _)]; exact hx))
      go_wp2
      go_ret
      exact ⟨by rw [HO.out]; rfl, rfl⟩

set_option maxHeartbeats 400000 in
theorem slTake_len (tg : Nat) (A : Option Addr) (l c : Nat) (w : World) (h : l ≠ 512) :
    Calls Try.prog 17 #[.pointer (some ⟨tg, 0, none⟩), .slice A l c] w fun e w' => e = .returned (.tuple #[.agg #[.int .i64 0, .int .i64 0, .int .i64 0, .bool false], .int .i64 2]) ∧ Below w.heap.size w w' := by
  have hd : ((l : Int) != 512) = true := by simp; omega
  clear h
  go_enter Try.func17, Try.ntmps17
  go_wp2
  exact bodyPost_ret (v := .tuple #[.agg #[.int .i64 0, .int .i64 0, .int .i64 0, .bool false], .int .i64 2]) (by simp [results, Try.results17, go_sem]) rfl ⟨rfl, (Below.refl _ _).alloc (Nat.le_refl _) _⟩
set_option maxRecDepth 100000 in
set_option maxHeartbeats 400000 in
theorem slTake_form (tg : Nat) (A : Option Addr) (c : Nat) (bs : List UInt8) (B : Nat) (w : World) (hl : bs.length = 512) (hlc : 512 ≤ c) (hb : Bytes w B A bs) (hB : B ≤ w.heap.size) (hi : isB slMark bs (0 : Nat) = false) :
    Calls Try.prog 17 #[.pointer (some ⟨tg, 0, none⟩), .slice A 512 c] w fun e w' => e = .returned (.tuple #[.agg #[.int .i64 0, .int .i64 0, .int .i64 0, .bool false], .int .i64 3]) ∧ Below w.heap.size w w' := by
  have HO := Lib.hid (open_form slText A 512 c bs B 0 _ rfl hl (by omega) hlc (hb.alloc hB (.cells #[.int .i64 0, .int .i64 0, .int .i64 0, .bool false] 23)) (by omega) hi)
  clear hi hb hl
  go_enter Try.func17, Try.ntmps17
  go_wp2_with (go_at_call 27; refine HO.out.mono ?_; rintro e w' ⟨rfl, rfl⟩)
  exact bodyPost_ret (v := .tuple #[.agg #[.int .i64 0, .int .i64 0, .int .i64 0, .bool false], .int .i64 3]) (by simp [results, Try.results17, go_sem]) rfl ⟨rfl, (Below.refl _ _).alloc (Nat.le_refl _) _⟩

theorem n_there {bs : List UInt8} (hl : bs.length = 512) (k : Nat) (hk : k < 3) : RSt.num bs ⟨4 + 4 * k, false⟩ 4 = (slN bs k, ⟨4 + 4 * (k + 1), false⟩) := num_there (by omega)
theorem f_there {bs : List UInt8} (hl : bs.length = 512) : RSt.num bs ⟨16, false⟩ 1 = (slF bs, ⟨17, false⟩) := num_there (by omega)
theorem c_there {bs : List UInt8} (hl : bs.length = 512) : RSt.num bs ⟨17, false⟩ 4 = (val ((bs.drop 17).take 4), ⟨21, false⟩) := num_there (by omega)
theorem chk_there {bs : List UInt8} (hl : bs.length = 512) : chkN bs 0 ⟨17, false⟩ = if val ((bs.drop 17).take 4) = sumN (bs.take 17) then 0 else 4 := by
  unfold chkN
  rw [c_there hl, if_neg (by simp)]
  rfl
theorem slF_lt {bs : List UInt8} : slF bs < 4294967296 := val_lt4 (by rw [List.length_take]; omega)
theorem slN_lt {bs : List UInt8} (k : Nat) : slN bs k < 4294967296 := val_lt4 (by rw [List.length_take]; omega)
theorem slE_form {bs : List UInt8} (hl : bs.length = 512) (h : isB slMark bs (0 : Nat) = false) : slE bs = 3 := by
  rw [isB_in (by rw [hl]; decide)] at h
  have h2 : ¬ bs.take 4 = slMark := of_decide_eq_false h
  unfold slE
  rw [if_neg h2]

set_option maxRecDepth 100000 in
set_option maxHeartbeats 2000000 in
theorem slTake_ok (tg : Nat) (A : Option Addr) (c : Nat) (bs : List UInt8) (B : Nat) (w : World) (hT : Table w tg) (hl : bs.length = 512) (hlc : 512 ≤ c) (hb : Bytes w B A bs) (hB : B ≤ w.heap.size) (hi : isB slMark bs (0 : Nat) = true) :
    Calls Try.prog 17 #[.pointer (some ⟨tg, 0, none⟩), .slice A 512 c] w fun e w' => e = .returned (slV bs) ∧ Below w.heap.size w w' := by
  have HO := Lib.hid (open_ok slText A 512 c bs B 0 _ rfl hl (by omega) hlc (hb.alloc hB (.cells #[.int .i64 0, .int .i64 0, .int .i64 0, .bool false] 23)) (by simp; omega) (by omega) (fun _ => hi))
  rw [openS_there (by omega)] at HO
  have hm : bs.take 4 = slMark := by
    rw [isB_in (by rw [hl]; decide)] at hi
    exact of_decide_eq_true hi
  have HEQ : Hid (slE bs = if val ((bs.drop 17).take 4) = sumN (bs.take 17) then (if slGood bs = true then 0 else 3) else 4) := by show _ = _; unfold slE; rw [if_pos hm]
  have HT0 : Hid (Table w tg) := hT
  have HBA := Lib.hid hb
  have HL := Lib.hid hl
  have htl := hT.lt
  have HXw0 : Hid (Box (w.alloc (.cells #[.int .i64 0, .int .i64 0, .int .i64 0, .bool false] 23)) w.heap.size #[.int .i64 0, .int .i64 0, .int .i64 0, .bool false] 23) := heap_alloc_new w _
  have HB0 := Lib.hid ((Below.refl w.heap.size w).alloc (Nat.le_refl _) (.cells #[.int .i64 0, .int .i64 0, .int .i64 0, .bool false] 23))
  have HZ0 : Hid ((w.alloc (.cells #[.int .i64 0, .int .i64 0, .int .i64 0, .bool false] 23)).heap.size = w.heap.size + 1) := by show _ = _; simp
  have HVG : Hid (slE bs = 0 → slV bs = .tuple #[.agg #[.int .i64 (slN bs 0 : Nat), .int .i64 (slN bs 1 : Nat), .int .i64 (slN bs 2 : Nat), .bool (decide (slF bs = 1))], .int .i64 0]) := slV_good
  have HVB : Hid (slE bs ≠ 0 → slV bs = .tuple #[.agg #[.int .i64 0, .int .i64 0, .int .i64 0, .bool false], .int .i64 (slE bs : Nat)]) := slV_bad
  clear hi hb hl hT hm
  generalize hw0 : w.alloc (.cells #[.int .i64 0, .int .i64 0, .int .i64 0, .bool false] 23) = w0 at *
  go_enter Try.func17, Try.ntmps17
  go_wp2_with (go_at_call 27; refine HO.out.mono ?_; rintro e w1 ⟨g, rfl, hg, hr, hbw⟩; have HR1 := Lib.hid hr; have HB1 := Lib.hid hbw; clear hr hbw)
  have hz0 := HZ0.out
  have hz1 := HB1.out.size
  have hgl := HR1.out.lt
  have HM1 := Lib.hid (HB0.out.trans (HB1.out.mono (by omega)))
  have HXw1 := Lib.hid (HXw0.out.below HB1.out (by omega))
  have HA1 := Lib.hid ((Below.refl w1.heap.size w1).alloc (Nat.le_refl _) (.cells #[.int .u32 0, .int .u32 0, .int .u32 0] 61))
  have HRs : Hid (RdS (w1.alloc (.cells #[.int .u32 0, .int .u32 0, .int .u32 0] 61)) g A 512 c ⟨4, false⟩) := Rd.below HR1.out HA1.out hgl
  have HNs : Hid (Box (w1.alloc (.cells #[.int .u32 0, .int .u32 0, .int .u32 0] 61)) w1.heap.size #[.int .u32 0, .int .u32 0, .int .u32 0] 61) := heap_alloc_new w1 _
  have HXs := Lib.hid (HXw1.out.alloc (.cells #[.int .u32 0, .int .u32 0, .int .u32 0] 61))
  have HMs := Lib.hid (HM1.out.trans (HA1.out.mono (by omega)))
  obtain ⟨N, hN⟩ : ∃ N, w1.heap.size = N := ⟨_, rfl⟩
  rw [hN] at HNs hgl
  rw [hN]
  have hNw : w.heap.size + 1 ≤ N := by omega
  clear HR1 HB1 HM1 HXw1 HA1 HO HXw0 HB0
  have HNU := Lib.hid (fun k (hk : k < 3) W (hr : RdS W g A 512 c ⟨4 + 4 * k, false⟩) (hm : Below w.heap.size w W) => number_st g A 512 c bs B ⟨4 + 4 * k, false⟩ 4 4 W hr HL.out (by omega) (show 4 + 4 * k ≤ 512 by omega) (by omega) (by omega) rfl (HBA.out.below hm hB))
  have HNF := Lib.hid (fun W (hr : RdS W g A 512 c ⟨16, false⟩) (hm : Below w.heap.size w W) => number_st g A 512 c bs B ⟨16, false⟩ 1 1 W hr HL.out (by omega) (by decide) (by omega) (by omega) rfl (HBA.out.below hm hB))
  have HCK := Lib.hid (fun W (hr : RdS W g A 512 c ⟨17, false⟩) (hm : Below w.heap.size w W) => check_any tg g A 512 c bs B 0 ⟨17, false⟩ W (HT0.out.below hm htl) hr HL.out (by omega) hlc (by decide) (Nat.zero_le _) (HBA.out.below hm hB) (by omega))
  rw [f_there HL.out] at HNF
  rw [chk_there HL.out, c_there HL.out] at HCK
  have hn0 := slN_lt (bs := bs) 0
  have hn1 := slN_lt (bs := bs) 1
  have hn2 := slN_lt (bs := bs) 2
  have hf := slF_lt (bs := bs)
  have HNT := Lib.hid (fun k (hk : k < 3) => n_there HL.out k hk)
  have HGD : Hid (slGood bs = (decide (slF bs ≤ 1) && (bs.drop 21).all (fun x => decide (x = 0)) && slB (slN bs 0) (slN bs 1) (slN bs 2) (decide (slF bs = 1)))) := rfl
  go_loopg [9, 26] 3 (fun gk _ i wr => ∃ k : Nat, k + gk = 3 ∧ i = .int .i64 k ∧ RdS wr g A 512 c ⟨4 + 4 * k, false⟩ ∧ Box wr N (arr21 (slN bs 0) (slN bs 1) (slN bs 2) k) 61 ∧ Box wr w.heap.size #[.int .i64 0, .int .i64 0, .int .i64 0, .bool false] 23 ∧ Below w.heap.size w wr)
  case atStart => exact ⟨0, by omega, rfl, HRs.out, HNs.out, HXs.out, HMs.out⟩
  case round =>
    clear HRs HNs HXs HMs
    obtain ⟨k, hk, rfl, hr, hn, hx, hm2⟩ := hrel
    have HRk := Lib.hid hr
    have HNk := Lib.hid hn
    have HXk := Lib.hid hx
    have HMk := Lib.hid hm2
    clear hr hn hx hm2
    have hgN : g ≠ N := by omega
    have hgw : w.heap.size ≠ g := by omega
    by_cases hk3 : k < 3
    · have hk4 : k = 0 ∨ k = 1 ∨ k = 2 := by omega
      rcases hk4 with rfl | rfl | rfl
      · have HN1 := Lib.hid (HNU.out 0 (by omega) wr HRk.out HMk.out)
        rw [HNT.out 0 (by omega)] at HN1
        go_wp2_with (go_at_call 28; refine HN1.out.mono ?_; rintro e w2 ⟨rfl, hr, ho⟩; have HR2 := Lib.hid hr; have HN2 := Lib.hid (HNk.out.only ho hgN.symm); have HX2 := Lib.hid (HXk.out.only ho hgw); have HM2 := Lib.hid (only_below ho HMk.out HMk.out.size (by omega)); clear hr ho; have hc : w2.cell? ⟨N, 0, none⟩ = some (.int .u32 0) := HN2.out.cell 0; have hf := frozen_of_row w2 N 0 _ _ HN2.out)
        go_roundg 2
        case measure => omega
        case rel => exact ⟨1, by omega, rfl, HR2.out.set_other _ hgN, HN2.out.set _, HX2.out.set_other _ (by omega), HM2.out.setCell (p := ⟨N, 0, none⟩) (by show w.heap.size ≤ N; omega) _⟩
      · have HN1 := Lib.hid (HNU.out 1 (by omega) wr HRk.out HMk.out)
        rw [HNT.out 1 (by omega)] at HN1
        go_wp2_with (go_at_call 28; refine HN1.out.mono ?_; rintro e w2 ⟨rfl, hr, ho⟩; have HR2 := Lib.hid hr; have HN2 := Lib.hid (HNk.out.only ho hgN.symm); have HX2 := Lib.hid (HXk.out.only ho hgw); have HM2 := Lib.hid (only_below ho HMk.out HMk.out.size (by omega)); clear hr ho; have hc : w2.cell? ⟨N, 1, none⟩ = some (.int .u32 0) := HN2.out.cell 1; have hf := frozen_of_row w2 N 1 _ _ HN2.out)
        go_roundg 1
        case measure => omega
        case rel => exact ⟨2, by omega, rfl, HR2.out.set_other _ hgN, HN2.out.set _, HX2.out.set_other _ (by omega), HM2.out.setCell (p := ⟨N, 1, none⟩) (by show w.heap.size ≤ N; omega) _⟩
      · have HN1 := Lib.hid (HNU.out 2 (by omega) wr HRk.out HMk.out)
        rw [HNT.out 2 (by omega)] at HN1
        go_wp2_with (go_at_call 28; refine HN1.out.mono ?_; rintro e w2 ⟨rfl, hr, ho⟩; have HR2 := Lib.hid hr; have HN2 := Lib.hid (HNk.out.only ho hgN.symm); have HX2 := Lib.hid (HXk.out.only ho hgw); have HM2 := Lib.hid (only_below ho HMk.out HMk.out.size (by omega)); clear hr ho; have hc : w2.cell? ⟨N, 2, none⟩ = some (.int .u32 0) := HN2.out.cell 2; have hf := frozen_of_row w2 N 2 _ _ HN2.out)
        go_roundg 0
        case measure => omega
        case rel => exact ⟨3, by omega, rfl, HR2.out.set_other _ hgN, HN2.out.set _, HX2.out.set_other _ (by omega), HM2.out.setCell (p := ⟨N, 2, none⟩) (by show w.heap.size ≤ N; omega) _⟩
    · obtain rfl : k = 3 := by omega
      have HNF1 := Lib.hid (HNF.out wr HRk.out HMk.out)
      clear HNU HNF HNT
      go_wp2_with fail
      refine HNF1.out.mono ?_
      rintro e w2 ⟨rfl, hr, ho⟩
      have HN2 := Lib.hid (HNk.out.only ho hgN.symm)
      have HX2 := Lib.hid (HXk.out.only ho hgw)
      have HM2 := Lib.hid (only_below ho HMk.out HMk.out.size (by omega))
      have HCK1 := Lib.hid (HCK.out w2 hr HM2.out)
      clear hr ho HNF1 HRk HNk HXk HMk HCK
      obtain ⟨b, o, rfl, hbB, hcell⟩ := HBA.out (by rw [byteCells_length, HL.out]; omega)
      have HBT : Hid (Bytes w B (some ⟨b, o + 21, none⟩) (bs.drop 21)) := fun _ => ⟨b, o + 21, rfl, hbB, fun j u hu => by
        have := hcell (21 + j) u (by unfold byteCells at hu ⊢; rw [List.getElem?_map] at hu ⊢; rw [List.getElem?_drop] at hu; exact hu)
        rw [← Nat.add_assoc] at this
        exact this⟩
      have HLT : Hid ((bs.drop 21).length = 491) := by show _ = _; rw [List.length_drop, HL.out]
      have HEM := Lib.hid (fun W (hm : Below w.heap.size w W) => empty_any (some ⟨b, o + 21, none⟩) 491 (c - 21) (bs.drop 21) B W HLT.out (by omega) (HBT.out.below hm hB))
      clear hcell
      by_cases hc : val ((bs.drop 17).take 4) = sumN (bs.take 17)
      · rw [if_pos hc] at HCK1 HEQ
        clear hc
        obtain ⟨em, hem⟩ : ∃ em, (bs.drop 21).all (fun x => decide (x = 0)) = em := ⟨_, rfl⟩
        rw [hem] at HEM HGD
        clear hem
        obtain ⟨n0, e0⟩ : ∃ n, slN bs 0 = n := ⟨_, rfl⟩
        obtain ⟨n1, e1⟩ : ∃ n, slN bs 1 = n := ⟨_, rfl⟩
        obtain ⟨n2, e2⟩ : ∃ n, slN bs 2 = n := ⟨_, rfl⟩
        obtain ⟨f, ef⟩ : ∃ n, slF bs = n := ⟨_, rfl⟩
        rw [e0] at hn0 HN2 HGD HVG
        rw [e1] at hn1 HN2 HGD HVG
        rw [e2] at hn2 HN2 HGD HVG
        rw [ef] at hf HGD HVG
        rw [ef]
        have HAT := Lib.hid (fun W (hr : RdS W g (some ⟨b, o, none⟩) 512 c ⟨21, false⟩) => at_any g (some ⟨b, o, none⟩) 512 c 21 false W hr)
        have HRT := Lib.hid (fun W k => slRight_any (n0 : Int) (n1 : Int) (n2 : Int) k W)
        unfold slC at HRT
        have hcn : ¬ c = 21 := by omega
        clear e0 e1 e2 ef
        have hf3 : f = 0 ∨ f = 1 ∨ 2 ≤ f := by omega
        rcases hf3 with rfl | rfl | hf2
        · cases em with
          | false =>
            go_wp2_with (go_at_call 29; refine HCK1.out.mono ?_; rintro e w3 ⟨rfl, hr, ho⟩; have HR3 := Lib.hid hr; have HN3 := Lib.hid (HN2.out.only ho hgN.symm); have HXw3 := Lib.hid (HX2.out.only ho hgw); have HM3 := Lib.hid (only_below ho HM2.out HM2.out.size (by omega)); clear hr ho; have hc0 : w3.cell? ⟨N, 0, none⟩ = some (.int .u32 (n0 : Int)) := HN3.out.cell 0; have hc1 : w3.cell? ⟨N, 1, none⟩ = some (.int .u32 (n1 : Int)) := HN3.out.cell 1; have hc2 : w3.cell? ⟨N, 2, none⟩ = some (.int .u32 (n2 : Int)) := HN3.out.cell 2; have hg3 := HR3.out.lt; have hz3 := HM3.out.size)
            obtain ⟨w4, hw4⟩ : ∃ w4, w3.alloc (.cells #[.int .i64 (n0 : Int), .int .i64 (n1 : Int), .int .i64 (n2 : Int), .bool false] 23) = w4 := ⟨_, rfl⟩
            rw [hw4]
            have HXw4 : Hid (Box w4 w.heap.size #[.int .i64 0, .int .i64 0, .int .i64 0, .bool false] 23) := by rw [← hw4]; exact HXw3.out.alloc _
            have HS4 : Hid (Box w4 w3.heap.size #[.int .i64 (n0 : Int), .int .i64 (n1 : Int), .int .i64 (n2 : Int), .bool false] 23) := by rw [← hw4]; exact heap_alloc_new w3 _
            have HB4 : Hid (Below w.heap.size w w4) := by rw [← hw4]; exact HM3.out.alloc hz3 _
            have HR4 : Hid (RdS w4 g (some ⟨b, o, none⟩) 512 c ⟨21, false⟩) := by rw [← hw4]; exact Rd.below HR3.out ((Below.refl w3.heap.size w3).alloc (Nat.le_refl _) _) hg3
            clear hw4
            have s0 : w4.cell? ⟨w3.heap.size, 0, none⟩ = some (.int .i64 (n0 : Int)) := HS4.out.cell 0
            have s1 : w4.cell? ⟨w3.heap.size, 1, none⟩ = some (.int .i64 (n1 : Int)) := HS4.out.cell 1
            have s2 : w4.cell? ⟨w3.heap.size, 2, none⟩ = some (.int .i64 (n2 : Int)) := HS4.out.cell 2
            have s3 : w4.cell? ⟨w3.heap.size, 3, none⟩ = some (.bool false) := HS4.out.cell 3
            have hs4 := HS4.out.lt
            have x0 : w4.cell? ⟨w.heap.size, 0, none⟩ = some (.int .i64 0) := HXw4.out.cell 0
            have x1 : w4.cell? ⟨w.heap.size, 1, none⟩ = some (.int .i64 0) := HXw4.out.cell 1
            have x2 : w4.cell? ⟨w.heap.size, 2, none⟩ = some (.int .i64 0) := HXw4.out.cell 2
            have x3 : w4.cell? ⟨w.heap.size, 3, none⟩ = some (.bool false) := HXw4.out.cell 3
            have f0 := frozen_of_row w4 w.heap.size 0 _ _ HXw4.out
            have f1 := frozen_of_row w4 w.heap.size 1 _ _ HXw4.out
            have f2 := frozen_of_row w4 w.heap.size 2 _ _ HXw4.out
            have f3 := frozen_of_row w4 w.heap.size 3 _ _ HXw4.out
            refine (HAT.out _ HR4.out).mono ?_
            rintro e w' ⟨rfl, rfl⟩
            go_wp2_with (go_at_call 30; refine (HEM.out _ HB4.out).mono ?_; rintro e w' ⟨rfl, rfl⟩)
            have HE3 : Hid (slE bs = 3) := by show _ = _; rw [HEQ.out, HGD.out]; simp
            refine bodyPost_ret (v := .tuple #[.agg #[.int .i64 0, .int .i64 0, .int .i64 0, .bool false], .int .i64 3]) (by simp [results, Try.results17, x0, x1, x2, x3, go_sem]) rfl ⟨by rw [HVB.out (by rw [HE3.out]; decide), HE3.out]; rfl, ?_⟩
            exact set4 HB4.out (Nat.le_refl _) _ _ _ _
          | true =>
            have HRT1 := Lib.hid (fun W => HRT.out W false)
            obtain ⟨rb, hrb⟩ : ∃ rb, slB (n0 : Int) (n1 : Int) (n2 : Int) false = rb := ⟨_, rfl⟩
            have HGE : Hid (slGood bs = rb) := by show _ = _; rw [HGD.out]; simp [hrb]
            rw [hrb] at HRT1
            clear hrb HRT
            cases rb with
            | false =>
              go_wp2_with (go_at_call 29; refine HCK1.out.mono ?_; rintro e w3 ⟨rfl, hr, ho⟩; have HR3 := Lib.hid hr; have HN3 := Lib.hid (HN2.out.only ho hgN.symm); have HXw3 := Lib.hid (HX2.out.only ho hgw); have HM3 := Lib.hid (only_below ho HM2.out HM2.out.size (by omega)); clear hr ho; have hc0 : w3.cell? ⟨N, 0, none⟩ = some (.int .u32 (n0 : Int)) := HN3.out.cell 0; have hc1 : w3.cell? ⟨N, 1, none⟩ = some (.int .u32 (n1 : Int)) := HN3.out.cell 1; have hc2 : w3.cell? ⟨N, 2, none⟩ = some (.int .u32 (n2 : Int)) := HN3.out.cell 2; have hg3 := HR3.out.lt; have hz3 := HM3.out.size)
              obtain ⟨w4, hw4⟩ : ∃ w4, w3.alloc (.cells #[.int .i64 (n0 : Int), .int .i64 (n1 : Int), .int .i64 (n2 : Int), .bool false] 23) = w4 := ⟨_, rfl⟩
              rw [hw4]
              have HXw4 : Hid (Box w4 w.heap.size #[.int .i64 0, .int .i64 0, .int .i64 0, .bool false] 23) := by rw [← hw4]; exact HXw3.out.alloc _
              have HS4 : Hid (Box w4 w3.heap.size #[.int .i64 (n0 : Int), .int .i64 (n1 : Int), .int .i64 (n2 : Int), .bool false] 23) := by rw [← hw4]; exact heap_alloc_new w3 _
              have HB4 : Hid (Below w.heap.size w w4) := by rw [← hw4]; exact HM3.out.alloc hz3 _
              have HR4 : Hid (RdS w4 g (some ⟨b, o, none⟩) 512 c ⟨21, false⟩) := by rw [← hw4]; exact Rd.below HR3.out ((Below.refl w3.heap.size w3).alloc (Nat.le_refl _) _) hg3
              clear hw4
              have s0 : w4.cell? ⟨w3.heap.size, 0, none⟩ = some (.int .i64 (n0 : Int)) := HS4.out.cell 0
              have s1 : w4.cell? ⟨w3.heap.size, 1, none⟩ = some (.int .i64 (n1 : Int)) := HS4.out.cell 1
              have s2 : w4.cell? ⟨w3.heap.size, 2, none⟩ = some (.int .i64 (n2 : Int)) := HS4.out.cell 2
              have s3 : w4.cell? ⟨w3.heap.size, 3, none⟩ = some (.bool false) := HS4.out.cell 3
              have hs4 := HS4.out.lt
              have x0 : w4.cell? ⟨w.heap.size, 0, none⟩ = some (.int .i64 0) := HXw4.out.cell 0
              have x1 : w4.cell? ⟨w.heap.size, 1, none⟩ = some (.int .i64 0) := HXw4.out.cell 1
              have x2 : w4.cell? ⟨w.heap.size, 2, none⟩ = some (.int .i64 0) := HXw4.out.cell 2
              have x3 : w4.cell? ⟨w.heap.size, 3, none⟩ = some (.bool false) := HXw4.out.cell 3
              have f0 := frozen_of_row w4 w.heap.size 0 _ _ HXw4.out
              have f1 := frozen_of_row w4 w.heap.size 1 _ _ HXw4.out
              have f2 := frozen_of_row w4 w.heap.size 2 _ _ HXw4.out
              have f3 := frozen_of_row w4 w.heap.size 3 _ _ HXw4.out
              refine (HAT.out _ HR4.out).mono ?_
              rintro e w' ⟨rfl, rfl⟩
              go_wp2_with (first | (go_at_call 30; refine (HEM.out _ HB4.out).mono ?_; rintro e w' ⟨rfl, rfl⟩) | (go_at_call 10; refine (HRT1.out _).mono ?_; rintro e w5 ⟨rfl, hw5⟩; have HXw5 : Hid (Box w5 w.heap.size #[.int .i64 0, .int .i64 0, .int .i64 0, .bool false] 23) := (by rw [← hw5]; exact HXw4.out.alloc _); have HS5 : Hid (Box w5 w3.heap.size #[.int .i64 (n0 : Int), .int .i64 (n1 : Int), .int .i64 (n2 : Int), .bool false] 23) := (by rw [← hw5]; exact HS4.out.alloc _); have HB5 : Hid (Below w.heap.size w w5) := (by rw [← hw5]; exact HB4.out.alloc HB4.out.size _); clear hw5; have p0 : w5.cell? ⟨w3.heap.size, 0, none⟩ = some (.int .i64 (n0 : Int)) := HS5.out.cell 0; have p1 : w5.cell? ⟨w3.heap.size, 1, none⟩ = some (.int .i64 (n1 : Int)) := HS5.out.cell 1; have p2 : w5.cell? ⟨w3.heap.size, 2, none⟩ = some (.int .i64 (n2 : Int)) := HS5.out.cell 2; have p3 : w5.cell? ⟨w3.heap.size, 3, none⟩ = some (.bool false) := HS5.out.cell 3; have y0 : w5.cell? ⟨w.heap.size, 0, none⟩ = some (.int .i64 0) := HXw5.out.cell 0; have y1 : w5.cell? ⟨w.heap.size, 1, none⟩ = some (.int .i64 0) := HXw5.out.cell 1; have y2 : w5.cell? ⟨w.heap.size, 2, none⟩ = some (.int .i64 0) := HXw5.out.cell 2; have y3 : w5.cell? ⟨w.heap.size, 3, none⟩ = some (.bool false) := HXw5.out.cell 3; have g0 := frozen_of_row w5 w.heap.size 0 _ _ HXw5.out; have g1 := frozen_of_row w5 w.heap.size 1 _ _ HXw5.out; have g2 := frozen_of_row w5 w.heap.size 2 _ _ HXw5.out; have g3 := frozen_of_row w5 w.heap.size 3 _ _ HXw5.out))
              have HE3 : Hid (slE bs = 3) := by show _ = _; rw [HEQ.out, HGE.out]; simp
              refine bodyPost_ret (v := .tuple #[.agg #[.int .i64 0, .int .i64 0, .int .i64 0, .bool false], .int .i64 3]) (by simp [results, Try.results17, y0, y1, y2, y3, go_sem]) rfl ⟨by rw [HVB.out (by rw [HE3.out]; decide), HE3.out]; rfl, ?_⟩
              exact set4 HB5.out (Nat.le_refl _) _ _ _ _
            | true =>
              go_wp2_with (go_at_call 29; refine HCK1.out.mono ?_; rintro e w3 ⟨rfl, hr, ho⟩; have HR3 := Lib.hid hr; have HN3 := Lib.hid (HN2.out.only ho hgN.symm); have HXw3 := Lib.hid (HX2.out.only ho hgw); have HM3 := Lib.hid (only_below ho HM2.out HM2.out.size (by omega)); clear hr ho; have hc0 : w3.cell? ⟨N, 0, none⟩ = some (.int .u32 (n0 : Int)) := HN3.out.cell 0; have hc1 : w3.cell? ⟨N, 1, none⟩ = some (.int .u32 (n1 : Int)) := HN3.out.cell 1; have hc2 : w3.cell? ⟨N, 2, none⟩ = some (.int .u32 (n2 : Int)) := HN3.out.cell 2; have hg3 := HR3.out.lt; have hz3 := HM3.out.size)
              obtain ⟨w4, hw4⟩ : ∃ w4, w3.alloc (.cells #[.int .i64 (n0 : Int), .int .i64 (n1 : Int), .int .i64 (n2 : Int), .bool false] 23) = w4 := ⟨_, rfl⟩
              rw [hw4]
              have HXw4 : Hid (Box w4 w.heap.size #[.int .i64 0, .int .i64 0, .int .i64 0, .bool false] 23) := by rw [← hw4]; exact HXw3.out.alloc _
              have HS4 : Hid (Box w4 w3.heap.size #[.int .i64 (n0 : Int), .int .i64 (n1 : Int), .int .i64 (n2 : Int), .bool false] 23) := by rw [← hw4]; exact heap_alloc_new w3 _
              have HB4 : Hid (Below w.heap.size w w4) := by rw [← hw4]; exact HM3.out.alloc hz3 _
              have HR4 : Hid (RdS w4 g (some ⟨b, o, none⟩) 512 c ⟨21, false⟩) := by rw [← hw4]; exact Rd.below HR3.out ((Below.refl w3.heap.size w3).alloc (Nat.le_refl _) _) hg3
              clear hw4
              have s0 : w4.cell? ⟨w3.heap.size, 0, none⟩ = some (.int .i64 (n0 : Int)) := HS4.out.cell 0
              have s1 : w4.cell? ⟨w3.heap.size, 1, none⟩ = some (.int .i64 (n1 : Int)) := HS4.out.cell 1
              have s2 : w4.cell? ⟨w3.heap.size, 2, none⟩ = some (.int .i64 (n2 : Int)) := HS4.out.cell 2
              have s3 : w4.cell? ⟨w3.heap.size, 3, none⟩ = some (.bool false) := HS4.out.cell 3
              have hs4 := HS4.out.lt
              have x0 : w4.cell? ⟨w.heap.size, 0, none⟩ = some (.int .i64 0) := HXw4.out.cell 0
              have x1 : w4.cell? ⟨w.heap.size, 1, none⟩ = some (.int .i64 0) := HXw4.out.cell 1
              have x2 : w4.cell? ⟨w.heap.size, 2, none⟩ = some (.int .i64 0) := HXw4.out.cell 2
              have x3 : w4.cell? ⟨w.heap.size, 3, none⟩ = some (.bool false) := HXw4.out.cell 3
              have f0 := frozen_of_row w4 w.heap.size 0 _ _ HXw4.out
              have f1 := frozen_of_row w4 w.heap.size 1 _ _ HXw4.out
              have f2 := frozen_of_row w4 w.heap.size 2 _ _ HXw4.out
              have f3 := frozen_of_row w4 w.heap.size 3 _ _ HXw4.out
              refine (HAT.out _ HR4.out).mono ?_
              rintro e w' ⟨rfl, rfl⟩
              go_wp2_with (first | (go_at_call 30; refine (HEM.out _ HB4.out).mono ?_; rintro e w' ⟨rfl, rfl⟩) | (go_at_call 10; refine (HRT1.out _).mono ?_; rintro e w5 ⟨rfl, hw5⟩; have HXw5 : Hid (Box w5 w.heap.size #[.int .i64 0, .int .i64 0, .int .i64 0, .bool false] 23) := (by rw [← hw5]; exact HXw4.out.alloc _); have HS5 : Hid (Box w5 w3.heap.size #[.int .i64 (n0 : Int), .int .i64 (n1 : Int), .int .i64 (n2 : Int), .bool false] 23) := (by rw [← hw5]; exact HS4.out.alloc _); have HB5 : Hid (Below w.heap.size w w5) := (by rw [← hw5]; exact HB4.out.alloc HB4.out.size _); clear hw5; have p0 : w5.cell? ⟨w3.heap.size, 0, none⟩ = some (.int .i64 (n0 : Int)) := HS5.out.cell 0; have p1 : w5.cell? ⟨w3.heap.size, 1, none⟩ = some (.int .i64 (n1 : Int)) := HS5.out.cell 1; have p2 : w5.cell? ⟨w3.heap.size, 2, none⟩ = some (.int .i64 (n2 : Int)) := HS5.out.cell 2; have p3 : w5.cell? ⟨w3.heap.size, 3, none⟩ = some (.bool false) := HS5.out.cell 3; have y0 : w5.cell? ⟨w.heap.size, 0, none⟩ = some (.int .i64 0) := HXw5.out.cell 0; have y1 : w5.cell? ⟨w.heap.size, 1, none⟩ = some (.int .i64 0) := HXw5.out.cell 1; have y2 : w5.cell? ⟨w.heap.size, 2, none⟩ = some (.int .i64 0) := HXw5.out.cell 2; have y3 : w5.cell? ⟨w.heap.size, 3, none⟩ = some (.bool false) := HXw5.out.cell 3; have g0 := frozen_of_row w5 w.heap.size 0 _ _ HXw5.out; have g1 := frozen_of_row w5 w.heap.size 1 _ _ HXw5.out; have g2 := frozen_of_row w5 w.heap.size 2 _ _ HXw5.out; have g3 := frozen_of_row w5 w.heap.size 3 _ _ HXw5.out))
              have HE3 : Hid (slE bs = 0) := by show _ = _; rw [HEQ.out, HGE.out]; simp
              refine bodyPost_ret (v := .tuple #[.agg #[.int .i64 (n0 : Int), .int .i64 (n1 : Int), .int .i64 (n2 : Int), .bool false], .int .i64 0]) (by simp [results, Try.results17, y0, y1, y2, y3, go_sem]) rfl ⟨by rw [HVG.out HE3.out]; rfl, ?_⟩
              exact set4 HB5.out (Nat.le_refl _) _ _ _ _
        · cases em with
          | false =>
            go_wp2_with (go_at_call 29; refine HCK1.out.mono ?_; rintro e w3 ⟨rfl, hr, ho⟩; have HR3 := Lib.hid hr; have HN3 := Lib.hid (HN2.out.only ho hgN.symm); have HXw3 := Lib.hid (HX2.out.only ho hgw); have HM3 := Lib.hid (only_below ho HM2.out HM2.out.size (by omega)); clear hr ho; have hc0 : w3.cell? ⟨N, 0, none⟩ = some (.int .u32 (n0 : Int)) := HN3.out.cell 0; have hc1 : w3.cell? ⟨N, 1, none⟩ = some (.int .u32 (n1 : Int)) := HN3.out.cell 1; have hc2 : w3.cell? ⟨N, 2, none⟩ = some (.int .u32 (n2 : Int)) := HN3.out.cell 2; have hg3 := HR3.out.lt; have hz3 := HM3.out.size)
            obtain ⟨w4, hw4⟩ : ∃ w4, w3.alloc (.cells #[.int .i64 (n0 : Int), .int .i64 (n1 : Int), .int .i64 (n2 : Int), .bool true] 23) = w4 := ⟨_, rfl⟩
            rw [hw4]
            have HXw4 : Hid (Box w4 w.heap.size #[.int .i64 0, .int .i64 0, .int .i64 0, .bool false] 23) := by rw [← hw4]; exact HXw3.out.alloc _
            have HS4 : Hid (Box w4 w3.heap.size #[.int .i64 (n0 : Int), .int .i64 (n1 : Int), .int .i64 (n2 : Int), .bool true] 23) := by rw [← hw4]; exact heap_alloc_new w3 _
            have HB4 : Hid (Below w.heap.size w w4) := by rw [← hw4]; exact HM3.out.alloc hz3 _
            have HR4 : Hid (RdS w4 g (some ⟨b, o, none⟩) 512 c ⟨21, false⟩) := by rw [← hw4]; exact Rd.below HR3.out ((Below.refl w3.heap.size w3).alloc (Nat.le_refl _) _) hg3
            clear hw4
            have s0 : w4.cell? ⟨w3.heap.size, 0, none⟩ = some (.int .i64 (n0 : Int)) := HS4.out.cell 0
            have s1 : w4.cell? ⟨w3.heap.size, 1, none⟩ = some (.int .i64 (n1 : Int)) := HS4.out.cell 1
            have s2 : w4.cell? ⟨w3.heap.size, 2, none⟩ = some (.int .i64 (n2 : Int)) := HS4.out.cell 2
            have s3 : w4.cell? ⟨w3.heap.size, 3, none⟩ = some (.bool true) := HS4.out.cell 3
            have hs4 := HS4.out.lt
            have x0 : w4.cell? ⟨w.heap.size, 0, none⟩ = some (.int .i64 0) := HXw4.out.cell 0
            have x1 : w4.cell? ⟨w.heap.size, 1, none⟩ = some (.int .i64 0) := HXw4.out.cell 1
            have x2 : w4.cell? ⟨w.heap.size, 2, none⟩ = some (.int .i64 0) := HXw4.out.cell 2
            have x3 : w4.cell? ⟨w.heap.size, 3, none⟩ = some (.bool false) := HXw4.out.cell 3
            have f0 := frozen_of_row w4 w.heap.size 0 _ _ HXw4.out
            have f1 := frozen_of_row w4 w.heap.size 1 _ _ HXw4.out
            have f2 := frozen_of_row w4 w.heap.size 2 _ _ HXw4.out
            have f3 := frozen_of_row w4 w.heap.size 3 _ _ HXw4.out
            refine (HAT.out _ HR4.out).mono ?_
            rintro e w' ⟨rfl, rfl⟩
            go_wp2_with (go_at_call 30; refine (HEM.out _ HB4.out).mono ?_; rintro e w' ⟨rfl, rfl⟩)
            have HE3 : Hid (slE bs = 3) := by show _ = _; rw [HEQ.out, HGD.out]; simp
            refine bodyPost_ret (v := .tuple #[.agg #[.int .i64 0, .int .i64 0, .int .i64 0, .bool false], .int .i64 3]) (by simp [results, Try.results17, x0, x1, x2, x3, go_sem]) rfl ⟨by rw [HVB.out (by rw [HE3.out]; decide), HE3.out]; rfl, ?_⟩
            exact set4 HB4.out (Nat.le_refl _) _ _ _ _
          | true =>
            have HRT1 := Lib.hid (fun W => HRT.out W true)
            obtain ⟨rb, hrb⟩ : ∃ rb, slB (n0 : Int) (n1 : Int) (n2 : Int) true = rb := ⟨_, rfl⟩
            have HGE : Hid (slGood bs = rb) := by show _ = _; rw [HGD.out]; simp [hrb]
            rw [hrb] at HRT1
            clear hrb HRT
            cases rb with
            | false =>
              go_wp2_with (go_at_call 29; refine HCK1.out.mono ?_; rintro e w3 ⟨rfl, hr, ho⟩; have HR3 := Lib.hid hr; have HN3 := Lib.hid (HN2.out.only ho hgN.symm); have HXw3 := Lib.hid (HX2.out.only ho hgw); have HM3 := Lib.hid (only_below ho HM2.out HM2.out.size (by omega)); clear hr ho; have hc0 : w3.cell? ⟨N, 0, none⟩ = some (.int .u32 (n0 : Int)) := HN3.out.cell 0; have hc1 : w3.cell? ⟨N, 1, none⟩ = some (.int .u32 (n1 : Int)) := HN3.out.cell 1; have hc2 : w3.cell? ⟨N, 2, none⟩ = some (.int .u32 (n2 : Int)) := HN3.out.cell 2; have hg3 := HR3.out.lt; have hz3 := HM3.out.size)
              obtain ⟨w4, hw4⟩ : ∃ w4, w3.alloc (.cells #[.int .i64 (n0 : Int), .int .i64 (n1 : Int), .int .i64 (n2 : Int), .bool true] 23) = w4 := ⟨_, rfl⟩
              rw [hw4]
              have HXw4 : Hid (Box w4 w.heap.size #[.int .i64 0, .int .i64 0, .int .i64 0, .bool false] 23) := by rw [← hw4]; exact HXw3.out.alloc _
              have HS4 : Hid (Box w4 w3.heap.size #[.int .i64 (n0 : Int), .int .i64 (n1 : Int), .int .i64 (n2 : Int), .bool true] 23) := by rw [← hw4]; exact heap_alloc_new w3 _
              have HB4 : Hid (Below w.heap.size w w4) := by rw [← hw4]; exact HM3.out.alloc hz3 _
              have HR4 : Hid (RdS w4 g (some ⟨b, o, none⟩) 512 c ⟨21, false⟩) := by rw [← hw4]; exact Rd.below HR3.out ((Below.refl w3.heap.size w3).alloc (Nat.le_refl _) _) hg3
              clear hw4
              have s0 : w4.cell? ⟨w3.heap.size, 0, none⟩ = some (.int .i64 (n0 : Int)) := HS4.out.cell 0
              have s1 : w4.cell? ⟨w3.heap.size, 1, none⟩ = some (.int .i64 (n1 : Int)) := HS4.out.cell 1
              have s2 : w4.cell? ⟨w3.heap.size, 2, none⟩ = some (.int .i64 (n2 : Int)) := HS4.out.cell 2
              have s3 : w4.cell? ⟨w3.heap.size, 3, none⟩ = some (.bool true) := HS4.out.cell 3
              have hs4 := HS4.out.lt
              have x0 : w4.cell? ⟨w.heap.size, 0, none⟩ = some (.int .i64 0) := HXw4.out.cell 0
              have x1 : w4.cell? ⟨w.heap.size, 1, none⟩ = some (.int .i64 0) := HXw4.out.cell 1
              have x2 : w4.cell? ⟨w.heap.size, 2, none⟩ = some (.int .i64 0) := HXw4.out.cell 2
              have x3 : w4.cell? ⟨w.heap.size, 3, none⟩ = some (.bool false) := HXw4.out.cell 3
              have f0 := frozen_of_row w4 w.heap.size 0 _ _ HXw4.out
              have f1 := frozen_of_row w4 w.heap.size 1 _ _ HXw4.out
              have f2 := frozen_of_row w4 w.heap.size 2 _ _ HXw4.out
              have f3 := frozen_of_row w4 w.heap.size 3 _ _ HXw4.out
              refine (HAT.out _ HR4.out).mono ?_
              rintro e w' ⟨rfl, rfl⟩
              go_wp2_with (first | (go_at_call 30; refine (HEM.out _ HB4.out).mono ?_; rintro e w' ⟨rfl, rfl⟩) | (go_at_call 10; refine (HRT1.out _).mono ?_; rintro e w5 ⟨rfl, hw5⟩; have HXw5 : Hid (Box w5 w.heap.size #[.int .i64 0, .int .i64 0, .int .i64 0, .bool false] 23) := (by rw [← hw5]; exact HXw4.out.alloc _); have HS5 : Hid (Box w5 w3.heap.size #[.int .i64 (n0 : Int), .int .i64 (n1 : Int), .int .i64 (n2 : Int), .bool true] 23) := (by rw [← hw5]; exact HS4.out.alloc _); have HB5 : Hid (Below w.heap.size w w5) := (by rw [← hw5]; exact HB4.out.alloc HB4.out.size _); clear hw5; have p0 : w5.cell? ⟨w3.heap.size, 0, none⟩ = some (.int .i64 (n0 : Int)) := HS5.out.cell 0; have p1 : w5.cell? ⟨w3.heap.size, 1, none⟩ = some (.int .i64 (n1 : Int)) := HS5.out.cell 1; have p2 : w5.cell? ⟨w3.heap.size, 2, none⟩ = some (.int .i64 (n2 : Int)) := HS5.out.cell 2; have p3 : w5.cell? ⟨w3.heap.size, 3, none⟩ = some (.bool true) := HS5.out.cell 3; have y0 : w5.cell? ⟨w.heap.size, 0, none⟩ = some (.int .i64 0) := HXw5.out.cell 0; have y1 : w5.cell? ⟨w.heap.size, 1, none⟩ = some (.int .i64 0) := HXw5.out.cell 1; have y2 : w5.cell? ⟨w.heap.size, 2, none⟩ = some (.int .i64 0) := HXw5.out.cell 2; have y3 : w5.cell? ⟨w.heap.size, 3, none⟩ = some (.bool false) := HXw5.out.cell 3; have g0 := frozen_of_row w5 w.heap.size 0 _ _ HXw5.out; have g1 := frozen_of_row w5 w.heap.size 1 _ _ HXw5.out; have g2 := frozen_of_row w5 w.heap.size 2 _ _ HXw5.out; have g3 := frozen_of_row w5 w.heap.size 3 _ _ HXw5.out))
              have HE3 : Hid (slE bs = 3) := by show _ = _; rw [HEQ.out, HGE.out]; simp
              refine bodyPost_ret (v := .tuple #[.agg #[.int .i64 0, .int .i64 0, .int .i64 0, .bool false], .int .i64 3]) (by simp [results, Try.results17, y0, y1, y2, y3, go_sem]) rfl ⟨by rw [HVB.out (by rw [HE3.out]; decide), HE3.out]; rfl, ?_⟩
              exact set4 HB5.out (Nat.le_refl _) _ _ _ _
            | true =>
              go_wp2_with (go_at_call 29; refine HCK1.out.mono ?_; rintro e w3 ⟨rfl, hr, ho⟩; have HR3 := Lib.hid hr; have HN3 := Lib.hid (HN2.out.only ho hgN.symm); have HXw3 := Lib.hid (HX2.out.only ho hgw); have HM3 := Lib.hid (only_below ho HM2.out HM2.out.size (by omega)); clear hr ho; have hc0 : w3.cell? ⟨N, 0, none⟩ = some (.int .u32 (n0 : Int)) := HN3.out.cell 0; have hc1 : w3.cell? ⟨N, 1, none⟩ = some (.int .u32 (n1 : Int)) := HN3.out.cell 1; have hc2 : w3.cell? ⟨N, 2, none⟩ = some (.int .u32 (n2 : Int)) := HN3.out.cell 2; have hg3 := HR3.out.lt; have hz3 := HM3.out.size)
              obtain ⟨w4, hw4⟩ : ∃ w4, w3.alloc (.cells #[.int .i64 (n0 : Int), .int .i64 (n1 : Int), .int .i64 (n2 : Int), .bool true] 23) = w4 := ⟨_, rfl⟩
              rw [hw4]
              have HXw4 : Hid (Box w4 w.heap.size #[.int .i64 0, .int .i64 0, .int .i64 0, .bool false] 23) := by rw [← hw4]; exact HXw3.out.alloc _
              have HS4 : Hid (Box w4 w3.heap.size #[.int .i64 (n0 : Int), .int .i64 (n1 : Int), .int .i64 (n2 : Int), .bool true] 23) := by rw [← hw4]; exact heap_alloc_new w3 _
              have HB4 : Hid (Below w.heap.size w w4) := by rw [← hw4]; exact HM3.out.alloc hz3 _
              have HR4 : Hid (RdS w4 g (some ⟨b, o, none⟩) 512 c ⟨21, false⟩) := by rw [← hw4]; exact Rd.below HR3.out ((Below.refl w3.heap.size w3).alloc (Nat.le_refl _) _) hg3
              clear hw4
              have s0 : w4.cell? ⟨w3.heap.size, 0, none⟩ = some (.int .i64 (n0 : Int)) := HS4.out.cell 0
              have s1 : w4.cell? ⟨w3.heap.size, 1, none⟩ = some (.int .i64 (n1 : Int)) := HS4.out.cell 1
              have s2 : w4.cell? ⟨w3.heap.size, 2, none⟩ = some (.int .i64 (n2 : Int)) := HS4.out.cell 2
              have s3 : w4.cell? ⟨w3.heap.size, 3, none⟩ = some (.bool true) := HS4.out.cell 3
              have hs4 := HS4.out.lt
              have x0 : w4.cell? ⟨w.heap.size, 0, none⟩ = some (.int .i64 0) := HXw4.out.cell 0
              have x1 : w4.cell? ⟨w.heap.size, 1, none⟩ = some (.int .i64 0) := HXw4.out.cell 1
              have x2 : w4.cell? ⟨w.heap.size, 2, none⟩ = some (.int .i64 0) := HXw4.out.cell 2
              have x3 : w4.cell? ⟨w.heap.size, 3, none⟩ = some (.bool false) := HXw4.out.cell 3
              have f0 := frozen_of_row w4 w.heap.size 0 _ _ HXw4.out
              have f1 := frozen_of_row w4 w.heap.size 1 _ _ HXw4.out
              have f2 := frozen_of_row w4 w.heap.size 2 _ _ HXw4.out
              have f3 := frozen_of_row w4 w.heap.size 3 _ _ HXw4.out
              refine (HAT.out _ HR4.out).mono ?_
              rintro e w' ⟨rfl, rfl⟩
              go_wp2_with (first | (go_at_call 30; refine (HEM.out _ HB4.out).mono ?_; rintro e w' ⟨rfl, rfl⟩) | (go_at_call 10; refine (HRT1.out _).mono ?_; rintro e w5 ⟨rfl, hw5⟩; have HXw5 : Hid (Box w5 w.heap.size #[.int .i64 0, .int .i64 0, .int .i64 0, .bool false] 23) := (by rw [← hw5]; exact HXw4.out.alloc _); have HS5 : Hid (Box w5 w3.heap.size #[.int .i64 (n0 : Int), .int .i64 (n1 : Int), .int .i64 (n2 : Int), .bool true] 23) := (by rw [← hw5]; exact HS4.out.alloc _); have HB5 : Hid (Below w.heap.size w w5) := (by rw [← hw5]; exact HB4.out.alloc HB4.out.size _); clear hw5; have p0 : w5.cell? ⟨w3.heap.size, 0, none⟩ = some (.int .i64 (n0 : Int)) := HS5.out.cell 0; have p1 : w5.cell? ⟨w3.heap.size, 1, none⟩ = some (.int .i64 (n1 : Int)) := HS5.out.cell 1; have p2 : w5.cell? ⟨w3.heap.size, 2, none⟩ = some (.int .i64 (n2 : Int)) := HS5.out.cell 2; have p3 : w5.cell? ⟨w3.heap.size, 3, none⟩ = some (.bool true) := HS5.out.cell 3; have y0 : w5.cell? ⟨w.heap.size, 0, none⟩ = some (.int .i64 0) := HXw5.out.cell 0; have y1 : w5.cell? ⟨w.heap.size, 1, none⟩ = some (.int .i64 0) := HXw5.out.cell 1; have y2 : w5.cell? ⟨w.heap.size, 2, none⟩ = some (.int .i64 0) := HXw5.out.cell 2; have y3 : w5.cell? ⟨w.heap.size, 3, none⟩ = some (.bool false) := HXw5.out.cell 3; have g0 := frozen_of_row w5 w.heap.size 0 _ _ HXw5.out; have g1 := frozen_of_row w5 w.heap.size 1 _ _ HXw5.out; have g2 := frozen_of_row w5 w.heap.size 2 _ _ HXw5.out; have g3 := frozen_of_row w5 w.heap.size 3 _ _ HXw5.out))
              have HE3 : Hid (slE bs = 0) := by show _ = _; rw [HEQ.out, HGE.out]; simp
              refine bodyPost_ret (v := .tuple #[.agg #[.int .i64 (n0 : Int), .int .i64 (n1 : Int), .int .i64 (n2 : Int), .bool true], .int .i64 0]) (by simp [results, Try.results17, y0, y1, y2, y3, go_sem]) rfl ⟨by rw [HVG.out HE3.out]; rfl, ?_⟩
              exact set4 HB5.out (Nat.le_refl _) _ _ _ _
        · have hff : decide ((1 : Int) < (f : Int)) = true := by simp; omega
          obtain ⟨fl, hfl⟩ : ∃ fl, ((f : Int) == 1) = fl := ⟨_, rfl⟩
          have HE3 : Hid (slE bs = 3) := by show _ = _; rw [HEQ.out, HGD.out, decide_eq_false (by omega : ¬ f ≤ 1)]; simp
          clear hf2 HEQ HGD HVG
          go_wp2_with (go_at_call 29; refine HCK1.out.mono ?_; rintro e w3 ⟨rfl, hr, ho⟩; have HR3 := Lib.hid hr; have HN3 := Lib.hid (HN2.out.only ho hgN.symm); have HXw3 := Lib.hid (HX2.out.only ho hgw); have HM3 := Lib.hid (only_below ho HM2.out HM2.out.size (by omega)); clear hr ho; have hc0 : w3.cell? ⟨N, 0, none⟩ = some (.int .u32 (n0 : Int)) := HN3.out.cell 0; have hc1 : w3.cell? ⟨N, 1, none⟩ = some (.int .u32 (n1 : Int)) := HN3.out.cell 1; have hc2 : w3.cell? ⟨N, 2, none⟩ = some (.int .u32 (n2 : Int)) := HN3.out.cell 2; have hg3 := HR3.out.lt; have hz3 := HM3.out.size; obtain ⟨w4, hw4⟩ : ∃ w4, w3.alloc (.cells #[.int .i64 (n0 : Int), .int .i64 (n1 : Int), .int .i64 (n2 : Int), .bool fl] 23) = w4 := ⟨_, rfl⟩; have HXw4 : Hid (Box w4 w.heap.size #[.int .i64 0, .int .i64 0, .int .i64 0, .bool false] 23) := (by rw [← hw4]; exact HXw3.out.alloc _); have HB4 : Hid (Below w.heap.size w w4) := (by rw [← hw4]; exact HM3.out.alloc hz3 _); have x0 : w4.cell? ⟨w.heap.size, 0, none⟩ = some (.int .i64 0) := HXw4.out.cell 0; have f0 := frozen_of_row w4 w.heap.size 0 _ _ HXw4.out; have x1 : w4.cell? ⟨w.heap.size, 1, none⟩ = some (.int .i64 0) := HXw4.out.cell 1; have f1 := frozen_of_row w4 w.heap.size 1 _ _ HXw4.out; have x2 : w4.cell? ⟨w.heap.size, 2, none⟩ = some (.int .i64 0) := HXw4.out.cell 2; have f2 := frozen_of_row w4 w.heap.size 2 _ _ HXw4.out; have x3 : w4.cell? ⟨w.heap.size, 3, none⟩ = some (.bool false) := HXw4.out.cell 3; have f3 := frozen_of_row w4 w.heap.size 3 _ _ HXw4.out)
          refine bodyPost_ret (v := .tuple #[.agg #[.int .i64 0, .int .i64 0, .int .i64 0, .bool false], .int .i64 3]) (by simp [results, Try.results17, x0, x1, x2, x3, go_sem]) rfl ⟨by rw [HVB.out (by rw [HE3.out]; decide), HE3.out]; rfl, ?_⟩
          exact set4 HB4.out (Nat.le_refl _) _ _ _ _
      · rw [if_neg hc] at HCK1 HEQ
        have HE4 := Lib.hid HEQ.out
        clear hc HEQ HGD
        go_wp2_with (go_at_call 29; refine HCK1.out.mono ?_; rintro e w3 ⟨rfl, _, ho⟩; have HXw3 := Lib.hid (HX2.out.only ho hgw); have HM3 := Lib.hid (only_below ho HM2.out HM2.out.size (by omega)); clear ho; have x0 : w3.cell? ⟨w.heap.size, 0, none⟩ = some (.int .i64 0) := HXw3.out.cell 0; have x1 : w3.cell? ⟨w.heap.size, 1, none⟩ = some (.int .i64 0) := HXw3.out.cell 1; have x2 : w3.cell? ⟨w.heap.size, 2, none⟩ = some (.int .i64 0) := HXw3.out.cell 2; have x3 : w3.cell? ⟨w.heap.size, 3, none⟩ = some (.bool false) := HXw3.out.cell 3; have f0 := frozen_of_row w3 w.heap.size 0 _ _ HXw3.out; have f1 := frozen_of_row w3 w.heap.size 1 _ _ HXw3.out; have f2 := frozen_of_row w3 w.heap.size 2 _ _ HXw3.out; have f3 := frozen_of_row w3 w.heap.size 3 _ _ HXw3.out)
        refine bodyPost_ret (v := .tuple #[.agg #[.int .i64 0, .int .i64 0, .int .i64 0, .bool false], .int .i64 4]) (by simp [results, Try.results17, x0, x1, x2, x3, go_sem]) rfl ⟨by rw [HVB.out (by rw [HE4.out]; decide), HE4.out]; rfl, ?_⟩
        exact set4 HM3.out (Nat.le_refl _) _ _ _ _
end Go.Proofs.Ytpokicngpapkcaa
