/- Layer 13: both tables are taken. -/
import Derived.Test.YtgbbdgoleiolhaaGreatMgBlockBack46
import Derived.Test.YtgbbdgoleiolhaaGreatMgBlockBack27
import Derived.WalkMore
import Derived.Test.YtgbbdgoleiolhaaGreatMgBlockBack23
import Derived.Test.YtgbbdgoleiolhaaGreatMgBlockBack42
import Derived.Deep.RegionHeld3
namespace Go.Proofs.YtgbbdgoleiolhaaGreat
open Go.RowKit BitsP SymP

/-- Two alphabets' cells. -/
def alC (a : Value) (n : Int) (b : Value) (m : Int) : Array Value := #[a, .int .i64 n, b, .int .i64 m]
theorem row4_facts {w : World} {g : Nat} {a : Value} {n : Int} {b : Value} {m : Int} (h : w.heap[g]? = some (.cells (alC a n b m) 79 (0, 0))) :
    (w.cell? ⟨g, 0, none⟩ = some a ∧ w.cell? ⟨g, 1, none⟩ = some (.int .i64 n) ∧ w.cell? ⟨g, 2, none⟩ = some b ∧ w.cell? ⟨g, 3, none⟩ = some (.int .i64 m)) ∧ (w.frozen? ⟨g, 0, none⟩ = false ∧ w.frozen? ⟨g, 1, none⟩ = false ∧ w.frozen? ⟨g, 2, none⟩ = false ∧ w.frozen? ⟨g, 3, none⟩ = false) :=
  ⟨⟨cell_of_row _ _ 0 _ _ _ h, cell_of_row _ _ 1 _ _ _ h, cell_of_row _ _ 2 _ _ _ h, cell_of_row _ _ 3 _ _ _ h⟩, frozen_of_row _ _ 0 _ _ h, frozen_of_row _ _ 1 _ _ h, frozen_of_row _ _ 2 _ _ h, frozen_of_row _ _ 3 _ _ h⟩
/-- What takeAlphabets leaves. -/
def AlPost (F : List Int → List Bool → Int × Int × Nat) (w w' : World) (r base : Nat) (S : Nat → Prop) (bs : List UInt8) (p : Nat) (e : Ending) : Prop :=
  ∃ (a b : Option Addr) (n m er : Int) (p' : Nat), e = .returned (.tuple #[.agg (alC (.pointer a) n (.pointer b) m), .int .i64 er]) ∧ RdS w' r base S bs p' ∧ Mod (oneB r) w w' ∧
    ((er ≠ 0 ∧ ∀ most, blkF F (unpack bs) p most = (er, [], 0)) ∨
     (er = 0 ∧ ∃ (z1 z2 : List Int) (ga gb : Nat), a = some ⟨ga, 0, none⟩ ∧ b = some ⟨gb, 0, none⟩ ∧ n = 257 ∧ m = 0 ∧ caR z1 = true ∧ caR z2 = true ∧ z1.length = 273 ∧ z2.length = 30 ∧ LCa w' w.heap.size ga z1 ∧ LCa w' w.heap.size gb z2 ∧
       ∀ most, blkF F (unpack bs) p most = blkL F z1 z2 (unpack bs) most ((unpack bs).length + 1 - p') [] 0 p'))
set_option maxRecDepth 100000 in
set_option maxHeartbeats 2000000 in
theorem tkalph_any (F : List Int → List Bool → Int × Int × Nat) (hF : FunT F) (r base : Nat) (S : Nat → Prop) (bs : List UInt8) (p : Nat) (w : World) (hrd : RdS w r base S bs p) (hbl : bs.length ≤ 1000000) :
    Calls Tryz.prog 35 #[.pointer (some ⟨r, 0, none⟩)] w fun e w' => AlPost F w w' r base S bs p e := by
  obtain ⟨hrl0, hp8, _⟩ := rd_low hrd
  obtain ⟨W1, hW1⟩ : ∃ W1, w.alloc (.cells #[.pointer none, .int .i64 0, .pointer none, .int .i64 0] 79) = W1 := ⟨_, rfl⟩
  have hb1 : Below w.heap.size w W1 := by rw [← hW1]; exact (Below.refl _ w).alloc (Nat.le_refl _) _
  have HX1 : Hid (W1.heap[w.heap.size]? = some (.cells (alC (.pointer none) 0 (.pointer none) 0) 79 (0, 0))) := by show _ = _; rw [← hW1]; exact heap_alloc_new w _
  have HM : Hid (Mod (oneB r) w W1) := (Mod.of_below hb1).mono (fun _ h => h.elim)
  have HRL : Hid (r < w.heap.size) := hrl0
  have hs1 : w.heap.size < W1.heap.size := by rw [← hW1]; simp
  have HT := Lib.hid (rntake_any F hF r base S bs p W1 (hrd.keep (Mod.of_below hb1) (fun _ _ h => h)) hbl)
  have HT2 : Hid (∀ (W : World) (p' : Nat), RdS W r base S bs p' → _) := fun W p' hW => rntake_any F hF r base S bs p' W hW hbl
  have HSL : Hid (∀ k, S k → k < w.heap.size) := hrd.lt
  have HKP : Hid (∀ (W W' : World), W.heap[w.heap.size]? = some (.cells (alC (.pointer none) 0 (.pointer none) 0) 79 (0, 0)) → Mod (oneB r) W W' → W'.heap[w.heap.size]? = some (.cells (alC (.pointer none) 0 (.pointer none) 0) 79 (0, 0))) := fun W W' h hm => hm.keep h (fun h => by have h2 : w.heap.size = r := h; have := HRL.out; omega)
  have HST : Hid (∀ W : World, Mod (oneB r) w W → ∀ a b c d, Mod (oneB r) w ((((W.setCell ⟨w.heap.size, 0, none⟩ a).setCell ⟨w.heap.size, 1, none⟩ b).setCell ⟨w.heap.size, 2, none⟩ c).setCell ⟨w.heap.size, 3, none⟩ d)) := fun W hW a b c d => (((hW.set _ _ (.inr (Nat.le_refl _))).set _ _ (.inr (Nat.le_refl _))).set _ _ (.inr (Nat.le_refl _))).set _ _ (.inr (Nat.le_refl _))
  have HSM : Hid (∀ (W : World) a b c d, Mod (oneB w.heap.size) W ((((W.setCell ⟨w.heap.size, 0, none⟩ a).setCell ⟨w.heap.size, 1, none⟩ b).setCell ⟨w.heap.size, 2, none⟩ c).setCell ⟨w.heap.size, 3, none⟩ d)) := fun W a b c d => ((((Mod.refl (oneB w.heap.size) W).set ⟨w.heap.size, 0, none⟩ a (.inl rfl)).set ⟨w.heap.size, 1, none⟩ b (.inl rfl)).set ⟨w.heap.size, 2, none⟩ c (.inl rfl)).set ⟨w.heap.size, 3, none⟩ d (.inl rfl)
  have HSR : Hid (∀ (W : World) (q : Nat), RdS W r base S bs q → ∀ a b c d, RdS ((((W.setCell ⟨w.heap.size, 0, none⟩ a).setCell ⟨w.heap.size, 1, none⟩ b).setCell ⟨w.heap.size, 2, none⟩ c).setCell ⟨w.heap.size, 3, none⟩ d) r base S bs q) := fun W q hW a b c d => hW.keep (HSM.out W a b c d) (fun k hk h => by have h2 : k = w.heap.size := h; have := HSL.out k hk; omega)
  have HBK : Hid (∀ most, blkF F (unpack bs) p most = blkF F (unpack bs) p most) := fun _ => rfl
  clear hrd hb1
  go_enter Tryz.func35, Tryz.ntmps35
  go_wp2_with fail
  refine HT.out.mono ?_
  rintro e w2 ⟨A2, c2, p2, rfl, hown2, hrd2, hpe2, hm2⟩
  have HO2 := Lib.hid hown2
  have HR2 := Lib.hid hrd2
  have HM2 := Lib.hid (HM.out.then_ hm2)
  have HX2 := Lib.hid (HKP.out _ _ HX1.out hm2)
  have HPE2 := Lib.hid hpe2
  have hs2 := hm2.size
  obtain ⟨⟨c20, c21, c22, c23⟩, f20, f21, f22, f23⟩ := row4_facts HX2.out
  clear hown2 hrd2 hm2 hpe2 HT
  obtain ⟨ta, hta⟩ : ∃ ta, tkF F (unpack bs) p = ta := ⟨_, rfl⟩
  have HTA := Lib.hid hta
  rw [hta] at HO2 HPE2 ⊢
  clear hta
  obtain ⟨er1, ns1, pe1⟩ := ta
  dsimp only at HO2 HPE2 ⊢
  by_cases he1 : er1 = 0
  · subst he1
    obtain rfl := HPE2.out rfl
    have HT3 := Lib.hid (HT2.out w2 _ HR2.out)
    clear HPE2
    go_wp2_with fail
    refine HT3.out.mono ?_
    rintro e w3 ⟨A3, c3, p3, rfl, hown3, hrd3, hpe3, hm3⟩
    have HO3 := Lib.hid hown3
    have HR3 := Lib.hid hrd3
    have HM3 := Lib.hid (HM2.out.then_ hm3)
    have HX3 := Lib.hid (HKP.out _ _ HX2.out hm3)
    have HPE3 := Lib.hid hpe3
    have HO23 := Lib.hid (own_keep HO2.out hm3 (fun k hk hS => by have h2 : k = r := hS; have := own_base HO2.out k hk; have := HRL.out; omega))
    have hs3 := hm3.size
    obtain ⟨⟨c30, c31, c32, c33⟩, f30, f31, f32, f33⟩ := row4_facts HX3.out
    clear hown3 hrd3 hm3 hpe3 HT3 HT2 c20 c21 c22 c23 f20 f21 f22 f23
    obtain ⟨tb, htb⟩ : ∃ tb, tkF F (unpack bs) p2 = tb := ⟨_, rfl⟩
    have HTB := Lib.hid htb
    rw [htb] at HO3 HPE3 ⊢
    clear htb
    obtain ⟨er2, ns2, pe2⟩ := tb
    dsimp only at HO3 HPE3 ⊢
    by_cases he2 : er2 = 0
    · subst he2
      obtain rfl := HPE3.out rfl
      clear HPE3
      obtain ⟨l1, hl1⟩ : ∃ l1, ns1.length = l1 := ⟨_, rfl⟩
      obtain ⟨l2, hl2⟩ : ∃ l2, ns2.length = l2 := ⟨_, rfl⟩
      have HL1 := Lib.hid hl1
      have HL2 := Lib.hid hl2
      rw [hl1] at HO2 HO23 ⊢
      rw [hl2] at HO3 ⊢
      clear hl1 hl2
      by_cases hlen : l1 ≠ 273 ∨ l2 ≠ 30
      · have HB : Hid (∀ most, blkF F (unpack bs) p most = (3, [], 0)) := fun most => by
          unfold blkF
          rw [HTA.out]
          dsimp only
          rw [if_neg (by simp), HTB.out]
          dsimp only
          rw [if_neg (by simp), HL1.out, HL2.out, if_pos hlen]
        have t1 : ((l1 : Int) != 273) = true ∨ (((l1 : Int) != 273) = false ∧ ((l2 : Int) != 30) = true) := by
          by_cases h1 : l1 = 273
          · exact .inr ⟨by simp; omega, by simp; omega⟩
          · exact .inl (by simp; omega)
        clear hlen
        rcases t1 with t1 | ⟨t1, t2⟩
        · go_wp2
          refine bodyPost_ret (v := .tuple #[.agg (alC (.pointer none) 0 (.pointer none) 0), .int .i64 3]) ?_ rfl ⟨_, _, _, _, 3, p3, rfl, ?_, ?_, .inl ⟨by decide, HB.out⟩⟩
          · rw [results_cell_tmp rfl]
            go_simp
            try rfl
          · first | exact HR3.out | exact HSR.out _ _ HR3.out _ _ _ _
          · first | exact HM3.out | exact HST.out _ HM3.out _ _ _ _
        · go_wp2
          refine bodyPost_ret (v := .tuple #[.agg (alC (.pointer none) 0 (.pointer none) 0), .int .i64 3]) ?_ rfl ⟨_, _, _, _, 3, p3, rfl, ?_, ?_, .inl ⟨by decide, HB.out⟩⟩
          · rw [results_cell_tmp rfl]
            go_simp
            try rfl
          · first | exact HR3.out | exact HSR.out _ _ HR3.out _ _ _ _
          · first | exact HM3.out | exact HST.out _ HM3.out _ _ _ _
      · obtain ⟨rfl, rfl⟩ : l1 = 273 ∧ l2 = 30 := by omega
        clear hlen
        obtain ⟨z1, hz1⟩ : ∃ z1 : List Int, (ns1.map fun n : Nat => (n : Int)) = z1 := ⟨_, rfl⟩
        obtain ⟨z2, hz2⟩ : ∃ z2 : List Int, (ns2.map fun n : Nat => (n : Int)) = z2 := ⟨_, rfl⟩
        have HZ1 := Lib.hid hz1
        have HZ2 := Lib.hid hz2
        have hzl1 : z1.length = 273 := by rw [← hz1, List.length_map]; exact HL1.out
        have hzl2 : z2.length = 30 := by rw [← hz2, List.length_map]; exact HL2.out
        have HC1 : Hid (Cells w3 w3.heap.size A2 (z1.map ic)) := by show Cells _ _ _ _; rw [← hz1, nCs_ic]; exact Cells.of_own HO23.out
        have HC2 : Hid (Cells w3 w3.heap.size A3 (z2.map ic)) := by show Cells _ _ _ _; rw [← hz2, nCs_ic]; exact Cells.of_own HO3.out
        have HB : Hid (∀ most, blkF F (unpack bs) p most = if caR z1 = false ∨ caR z2 = false then (13, [], 0) else blkL F z1 z2 (unpack bs) most ((unpack bs).length + 1 - p3) [] 0 p3) := fun most => by
          unfold blkF
          rw [HTA.out]
          dsimp only
          rw [if_neg (by simp), HTB.out]
          dsimp only
          rw [if_neg (by simp), HL1.out, HL2.out, if_neg (by omega), HZ1.out, HZ2.out]
        clear hz1 hz2
        cases hr1 : caR z1 with
        | false =>
          have HN := Lib.hid (new_no A2 273 c2 z1 w3.heap.size w3 hzl1 (by omega) HC1.out hr1)
          have HB2 : Hid (∀ most, blkF F (unpack bs) p most = (13, [], 0)) := fun most => by rw [HB.out, if_pos (.inl hr1)]
          clear hr1 HB
          go_wp2_with (go_at_call 48; refine HN.out.mono ?_; rintro e w4 ⟨rfl, rfl⟩)
          refine bodyPost_ret (v := .tuple #[.agg (alC (.pointer none) 0 (.pointer none) 0), .int .i64 13]) ?_ rfl ⟨_, _, _, _, 13, p3, rfl, ?_, ?_, .inl ⟨by decide, HB2.out⟩⟩
          · rw [results_cell_tmp rfl]
            go_simp
            try rfl
          · first | exact HR3.out | exact HSR.out _ _ HR3.out _ _ _ _
          · first | exact HM3.out | exact HST.out _ HM3.out _ _ _ _
        | true =>
          have HN := Lib.hid (new_low A2 273 c2 z1 w3.heap.size w3 hzl1 (by omega) HC1.out (Nat.le_refl _) hr1)
          have HR1 := Lib.hid hr1
          rw [hr1] at HB
          clear hr1
          go_wp2_with fail
          refine HN.out.mono ?_
          rintro e w4 ⟨ga, rfl, hla, hb4⟩
          have HLA := Lib.hid hla
          have HM4 := Lib.hid (HM3.out.then_ ((Mod.of_below hb4).mono fun _ h => h.elim))
          have HR4 := Lib.hid (HR3.out.keep (Mod.of_below hb4) (fun _ _ h => h))
          have HC4 := Lib.hid (HC2.out.below hb4 (Nat.le_refl _))
          have HX4 := Lib.hid (show w4.heap[w.heap.size]? = _ from (hb4.block w.heap.size (Array.getElem?_eq_some_iff.1 HX3.out).1).trans HX3.out)
          have hs4 := hb4.size
          obtain ⟨⟨c40, c41, c42, c43⟩, f40, f41, f42, f43⟩ := row4_facts HX4.out
          clear hla hb4 HN c30 c31 c32 c33 f30 f31 f32 f33
          cases hr2 : caR z2 with
          | false =>
            have HN := Lib.hid (new_no A3 30 c3 z2 w3.heap.size w4 hzl2 (by omega) HC4.out hr2)
            have HB2 : Hid (∀ most, blkF F (unpack bs) p most = (13, [], 0)) := fun most => by rw [HB.out, if_pos (.inr hr2)]
            clear hr2 HB
            go_wp2_with (go_at_call 48; refine HN.out.mono ?_; rintro e w5 ⟨rfl, rfl⟩)
            refine bodyPost_ret (v := .tuple #[.agg (alC (.pointer (some ⟨ga, 0, none⟩)) 257 (.pointer none) 0), .int .i64 13]) ?_ rfl ⟨_, _, _, _, 13, p3, rfl, ?_, ?_, .inl ⟨by decide, HB2.out⟩⟩
            · rw [results_cell_tmp rfl]
              go_simp
              try rfl
            · exact HSR.out _ _ HR4.out _ _ _ _
            · exact HST.out _ HM4.out _ _ _ _
          | true =>
            have HN := Lib.hid (new_low A3 30 c3 z2 w3.heap.size w4 hzl2 (by omega) HC4.out hs4 hr2)
            have HR2' := Lib.hid hr2
            have HB2 : Hid (∀ most, blkF F (unpack bs) p most = blkL F z1 z2 (unpack bs) most ((unpack bs).length + 1 - p3) [] 0 p3) := fun most => by rw [HB.out, if_neg (by rw [hr2]; simp)]
            clear hr2 HB
            go_wp2_with (go_at_call 48; refine HN.out.mono ?_; rintro e w5 ⟨gb, rfl, hlb, hb5⟩; have HLB := Lib.hid hlb; have HLA5 := Lib.hid (HLA.out.keep2 (Mod.of_below hb5) (fun _ h => h.elim)); have HM5 := Lib.hid (HM4.out.then_ ((Mod.of_below hb5).mono fun _ h => h.elim)); have HR5 := Lib.hid (HR4.out.keep (Mod.of_below hb5) (fun _ _ h => h)); obtain ⟨⟨c50, c51, c52, c53⟩, f50, f51, f52, f53⟩ := row4_facts ((hb5.block w.heap.size (Array.getElem?_eq_some_iff.1 HX4.out).1).trans HX4.out); clear hlb hb5)
            refine bodyPost_ret (v := .tuple #[.agg (alC (.pointer (some ⟨ga, 0, none⟩)) 257 (.pointer (some ⟨gb, 0, none⟩)) 0), .int .i64 0]) ?_ rfl ⟨_, _, _, _, 0, p3, rfl, ?_, ?_, .inr ⟨rfl, z1, z2, ga, gb, rfl, rfl, rfl, rfl, HR1.out, HR2'.out, hzl1, hzl2, ?_, ?_, HB2.out⟩⟩
            · rw [results_cell_tmp rfl]
              go_simp
              try rfl
            · exact HSR.out _ _ HR5.out _ _ _ _
            · exact HST.out _ HM5.out _ _ _ _
            · exact (HLA5.out.keep2 (HSM.out _ _ _ _ _) (fun k hk => by have h2 : k = w.heap.size := hk; omega)).lower (by omega)
            · exact (HLB.out.keep2 (HSM.out _ _ _ _ _) (fun k hk => by have h2 : k = w.heap.size := hk; omega)).lower (by omega)
    · have HB : Hid (∀ most, blkF F (unpack bs) p most = (er2, [], 0)) := fun most => by
        unfold blkF
        rw [HTA.out]
        dsimp only
        rw [if_neg (by simp), HTB.out]
        exact if_pos he2
      have t1 : (er2 != 0) = true := by simpa using he2
      have HE2 := Lib.hid he2
      clear he2 HPE3
      go_wp2
      refine bodyPost_ret (v := .tuple #[.agg (alC (.pointer none) 0 (.pointer none) 0), .int .i64 er2]) ?_ rfl ⟨_, _, _, _, er2, p3, rfl, ?_, ?_, .inl ⟨HE2.out, HB.out⟩⟩
      · rw [results_cell_tmp rfl]
        go_simp
        try rfl
      · first | exact HR3.out | exact HSR.out _ _ HR3.out _ _ _ _
      · first | exact HM3.out | exact HST.out _ HM3.out _ _ _ _
  · have HB : Hid (∀ most, blkF F (unpack bs) p most = (er1, [], 0)) := fun most => by
      unfold blkF
      rw [HTA.out]
      exact if_pos he1
    have t1 : (er1 != 0) = true := by simpa using he1
    have HE1 := Lib.hid he1
    clear he1 HPE2
    go_wp2
    refine bodyPost_ret (v := .tuple #[.agg (alC (.pointer none) 0 (.pointer none) 0), .int .i64 er1]) ?_ rfl ⟨_, _, _, _, er1, p2, rfl, ?_, ?_, .inl ⟨HE1.out, HB.out⟩⟩
    · rw [results_cell_tmp rfl]
      go_simp
      try rfl
    · first | exact HR2.out | exact HSR.out _ _ HR2.out _ _ _ _
    · first | exact HM2.out | exact HST.out _ HM2.out _ _ _ _
end Go.Proofs.YtgbbdgoleiolhaaGreat
/- Layer 13: tokens are taken. -/
namespace Go.Proofs.YtgbbdgoleiolhaaGreat
open Go.RowKit BitsP SymP

/-- A token's cells. -/
def tcC (t : Tk) : List Value := [.int .u8 (t.1.toNat : Int), .int .i64 (t.2.1 : Int), .int .i64 (t.2.2 : Int)]
theorem tcElem : Elem Tryz.prog 22 52 (.agg #[.int .u8 0, .int .i64 0, .int .i64 0]) 3 24 := Elem.of Tryz.underlying22 (by kernel_rfl) (by kernel_rfl) (by omega)
/-- What the loop keeps: the tokens, the reader, the alphabets. -/
structure TsI (w W : World) (r base : Nat) (S : Nat → Prop) (bs : List UInt8) (p ga gb : Nat) (v : Value) (ts : List Tk) : Prop where
  row : W.ownsRow (w.heap.size + 1) 52 3 v ts.length (ts.flatMap tcC)
  rd : RdS W r base S bs p
  mod : Mod (oneB r) w W
  box : W.heap[w.heap.size]? = some (.cells (alC (.pointer (some ⟨ga, 0, none⟩)) 257 (.pointer (some ⟨gb, 0, none⟩)) 0) 79 (0, 0))
section
variable {w W W' : World} {r base p p' ga gb : Nat} {S : Nat → Prop} {bs : List UInt8} {v v' : Value} {ts ts' : List Tk}
theorem TsI.part (h : TsI w W r base S bs p ga gb v ts) (hr : r < w.heap.size) (hm : Mod (oneB r) W W') (hrd : RdS W' r base S bs p') : TsI w W' r base S bs p' ga gb v ts :=
  ⟨own_keep h.row hm (fun k hk hs => by have h2 : k = r := hs; have := own_base h.row k hk; omega), hrd, h.mod.then_ hm, hm.keep h.box (fun hs => by have h2 : w.heap.size = r := hs; omega)⟩
theorem TsI.below (h : TsI w W r base S bs p ga gb v ts) (hb : Below W.heap.size W W') : TsI w W' r base S bs p ga gb v ts :=
  ⟨own_keep h.row (Mod.of_below hb) (fun _ _ h => h), h.rd.keep (Mod.of_below hb) (fun _ _ h => h), h.mod.then_ ((Mod.of_below hb).mono fun _ h => h.elim), (hb.block _ (Array.getElem?_eq_some_iff.1 h.box).1).trans h.box⟩
/-- A block that is none of these changes. -/
theorem TsI.other {g : Nat} (h : TsI w W r base S bs p ga gb v ts) (hSL : ∀ k, S k → k < w.heap.size) (hg : w.heap.size < g) (hv : v.ownBlock ≠ some g) (hm : Mod (oneB g) W W') : TsI w W' r base S bs p ga gb v ts :=
  ⟨own_keep h.row hm (fun k hk hs => by have h2 : k = g := hs; exact hv (h2 ▸ hk)), h.rd.keep hm (fun k hk hs => by have h2 : k = g := hs; have := hSL k hk; omega), h.mod.trans hm (fun k hs => .inr (by have h2 : k = g := hs; omega)), hm.keep h.box (fun hs => by have h2 : w.heap.size = g := hs; omega)⟩
theorem TsI.app {m : Nat} {xs : List Value} (h : TsI w W r base S bs p ga gb v ts) (hSL : ∀ k, S k → k < w.heap.size) (ha : App W (w.heap.size + 1) 52 3 v m xs W' v') (hm : m = ts'.length) (hx : xs = ts'.flatMap tcC) : TsI w W' r base S bs p ga gb v' ts' := by
  subst hm hx
  exact ⟨ha.own, h.rd.keep (Mod.of_app ha) (fun k hk hs => by have := hSL k hk; have := own_base h.row k hs; omega), h.mod.trans (Mod.of_app ha) (fun k hk => .inr (by have := own_base h.row k hk; omega)), (Mod.of_app ha).keep h.box (fun hk => by have := own_base h.row _ hk; omega)⟩
end
/-- A row in memory. -/
def RowB (W : World) (R : Nat) (c1 c2 : Nat × Nat × Nat) (m : Bool) : Prop := W.heap[R]? = some (.cells #[.int .i64 (c1.1 : Int), .int .i64 (c1.2.1 : Int), .int .u32 (c1.2.2 : Int), .int .i64 (c2.1 : Int), .int .i64 (c2.2.1 : Int), .int .u32 (c2.2.2 : Int), .bool m] 61 (0, 0))
def PtrB (W : World) (R : Nat) : Prop := W.heap[R + 1]? = some (.cells #[.pointer (some ⟨R, 0, none⟩), .pointer (some ⟨R, 3, none⟩)] 126 (0, 0))
theorem rowB_cells {W : World} {R : Nat} {c1 c2 : Nat × Nat × Nat} {m : Bool} (h : RowB W R c1 c2 m) : W.cell? ⟨R, 0, none⟩ = some (.int .i64 (c1.1 : Int)) ∧ W.cell? ⟨R, 1, none⟩ = some (.int .i64 (c1.2.1 : Int)) ∧ W.cell? ⟨R, 2, none⟩ = some (.int .u32 (c1.2.2 : Int)) ∧ W.cell? ⟨R, 3, none⟩ = some (.int .i64 (c2.1 : Int)) ∧ W.cell? ⟨R, 4, none⟩ = some (.int .i64 (c2.2.1 : Int)) ∧ W.cell? ⟨R, 5, none⟩ = some (.int .u32 (c2.2.2 : Int)) ∧ W.cell? ⟨R, 6, none⟩ = some (.bool m) :=
  ⟨cell_of_row _ _ 0 _ _ _ h, cell_of_row _ _ 1 _ _ _ h, cell_of_row _ _ 2 _ _ _ h, cell_of_row _ _ 3 _ _ _ h, cell_of_row _ _ 4 _ _ _ h, cell_of_row _ _ 5 _ _ _ h, cell_of_row _ _ 6 _ _ _ h⟩
theorem rowB_free {W : World} {R : Nat} {c1 c2 : Nat × Nat × Nat} {m : Bool} (h : RowB W R c1 c2 m) : W.frozen? ⟨R, 0, none⟩ = false ∧ W.frozen? ⟨R, 1, none⟩ = false ∧ W.frozen? ⟨R, 2, none⟩ = false ∧ W.frozen? ⟨R, 3, none⟩ = false ∧ W.frozen? ⟨R, 4, none⟩ = false ∧ W.frozen? ⟨R, 5, none⟩ = false ∧ W.frozen? ⟨R, 6, none⟩ = false :=
  ⟨frozen_of_row _ _ 0 _ _ h, frozen_of_row _ _ 1 _ _ h, frozen_of_row _ _ 2 _ _ h, frozen_of_row _ _ 3 _ _ h, frozen_of_row _ _ 4 _ _ h, frozen_of_row _ _ 5 _ _ h, frozen_of_row _ _ 6 _ _ h⟩
theorem RowB.first {W : World} {R : Nat} {c1 c2 : Nat × Nat × Nat} {m : Bool} (h : RowB W R c1 c2 m) (c : Nat × Nat × Nat) : RowB (((W.setCell ⟨R, 0, none⟩ (.int .i64 (c.1 : Int))).setCell ⟨R, 1, none⟩ (.int .i64 (c.2.1 : Int))).setCell ⟨R, 2, none⟩ (.int .u32 (c.2.2 : Int))) R c c2 m :=
  heap_setCell_same _ R 2 _ _ _ (heap_setCell_same _ R 1 _ _ _ (heap_setCell_same W R 0 _ _ _ h))
theorem RowB.second {W : World} {R : Nat} {c1 c2 : Nat × Nat × Nat} {m : Bool} (h : RowB W R c1 c2 m) (c : Nat × Nat × Nat) : RowB (((W.setCell ⟨R, 3, none⟩ (.int .i64 (c.1 : Int))).setCell ⟨R, 4, none⟩ (.int .i64 (c.2.1 : Int))).setCell ⟨R, 5, none⟩ (.int .u32 (c.2.2 : Int))) R c1 c m :=
  heap_setCell_same _ R 5 _ _ _ (heap_setCell_same _ R 4 _ _ _ (heap_setCell_same W R 3 _ _ _ h))
theorem RowB.third {W : World} {R : Nat} {c1 c2 : Nat × Nat × Nat} {m : Bool} (h : RowB W R c1 c2 m) (b : Bool) : RowB (W.setCell ⟨R, 6, none⟩ (.bool b)) R c1 c2 b :=
  heap_setCell_same W R 6 _ _ _ h
theorem set3_mod (W : World) (R i j k : Nat) (a b c : Value) : Mod (oneB R) W (((W.setCell ⟨R, i, none⟩ a).setCell ⟨R, j, none⟩ b).setCell ⟨R, k, none⟩ c) :=
  (((Mod.refl (oneB R) W).set ⟨R, i, none⟩ a (.inl rfl)).set ⟨R, j, none⟩ b (.inl rfl)).set ⟨R, k, none⟩ c (.inl rfl)
theorem set1_mod (W : World) (R i : Nat) (a : Value) : Mod (oneB R) W (W.setCell ⟨R, i, none⟩ a) := (Mod.refl (oneB R) W).set ⟨R, i, none⟩ a (.inl rfl)
theorem cells3_new (W : World) (o : Obj) (a b c : Value) (T : TypeId) : Cells ((W.alloc o).alloc (.cells #[a, b, c] T)) (W.heap.size + 2) (some ⟨W.heap.size + 1, 0, none⟩) [a, b, c] := fun _ =>
  ⟨W.heap.size + 1, 0, rfl, by omega, fun j u hu => by
    have h := heap_alloc_new (W.alloc o) (.cells #[a, b, c] T)
    rw [World.size_alloc] at h
    rw [Nat.zero_add, cell_of_row _ (W.heap.size + 1) j _ _ _ h, ← Array.getElem?_toList]
    exact hu⟩
/-- What joined symbols come to is small. -/
theorem joinR_bd {n1 b1 : Int} {x1 : Nat} {n2 b2 : Int} {x2 : Nat} {m : Bool} {J : Option (Nat × Nat × Nat)} (h : joinR n1 b1 x1 n2 b2 x2 m = J) : ∀ y l d, J = some (y, l, d) → y < 256 ∧ l ≤ 258 ∧ d ≤ 32768 := by
  rintro y l d rfl
  unfold joinR at h
  split at h
  · split at h
    · rename_i hc
      cases h
      omega
    · cases h
  · split at h
    · rename_i hc
      cases h
      have h1 := valC_low (n := n1 - 257) (b := b1) (x := x1) (by omega)
      have h2 := vN_lt n2 b2 x2
      omega
    · cases h
set_option maxRecDepth 100000 in
set_option maxHeartbeats 4000000 in
theorem tktoks_any (F : List Int → List Bool → Int × Int × Nat) (hF : FunT F) (r base n0 ga gb : Nat) (S : Nat → Prop) (bs : List UInt8) (p : Nat) (most : Int) (z1 z2 : List Int) (w : World) (h1 : caR z1 = true) (h2 : caR z2 = true) (hzl1 : z1.length = 273) (hzl2 : z2.length = 30) (ha : LCa w n0 ga z1) (hb : LCa w n0 gb z2) (hr0 : r < n0) (hrd : RdS w r base S bs p) (hbl : bs.length ≤ 1000000) (m0 : -9223372036854775808 ≤ most) (m1 : most ≤ 9223372036854775807) :
    Calls Tryz.prog 36 #[.pointer (some ⟨r, 0, none⟩), .agg (alC (.pointer (some ⟨ga, 0, none⟩)) 257 (.pointer (some ⟨gb, 0, none⟩)) 0), .int .i64 most] w
      fun e w' => ∃ (A : Option Addr) (c p' : Nat) (t : Int × List Tk × Nat), blkL F z1 z2 (unpack bs) most ((unpack bs).length + 1 - p) [] 0 p = t ∧ e = .returned (.tuple #[.slice A t.2.1.length c, .int .i64 t.1]) ∧ w'.ownsRow (w.heap.size + 1) 52 3 (.slice A t.2.1.length c) t.2.1.length (t.2.1.flatMap tcC) ∧ RdS w' r base S bs p' ∧ (t.1 = 0 → p' = t.2.2) ∧ Mod (oneB r) w w' := by
  obtain ⟨hrl0, hp8, _⟩ := rd_low hrd
  obtain ⟨W1, hW1⟩ : ∃ W1, w.alloc (.cells (alC (.pointer (some ⟨ga, 0, none⟩)) 257 (.pointer (some ⟨gb, 0, none⟩)) 0) 79) = W1 := ⟨_, rfl⟩
  have hb1 : Below w.heap.size w W1 := by rw [← hW1]; exact (Below.refl _ w).alloc (Nat.le_refl _) _
  have HX1 : Hid (W1.heap[w.heap.size]? = some (.cells (alC (.pointer (some ⟨ga, 0, none⟩)) 257 (.pointer (some ⟨gb, 0, none⟩)) 0) 79 (0, 0))) := by show _ = _; rw [← hW1]; exact heap_alloc_new w _
  have HSL : Hid (∀ k, S k → k < w.heap.size) := hrd.lt
  have HRL : Hid (r < w.heap.size) := hrl0
  obtain ⟨L, hL⟩ : ∃ L, unpack bs = L := ⟨_, rfl⟩
  have hLl : L.length = 8 * bs.length := by rw [← hL, unpack_length]
  have HI1 : Hid (TsI w W1 r base S bs p ga gb (.slice none 0 0) []) := ⟨World.ownsRow_nil _ _ _ _, hrd.keep (Mod.of_below hb1) (fun _ _ h => h), (Mod.of_below hb1).mono (fun _ h => h.elim), HX1.out⟩
  have HCA : Hid (∀ W, Mod (oneB r) w W → LCa W n0 ga z1) := fun W hW => ha.keep2 hW (fun k hk => by have h2 : k = r := hk; omega)
  have HCB : Hid (∀ W, Mod (oneB r) w W → LCa W n0 gb z2) := fun W hW => hb.keep2 hW (fun k hk => by have h2 : k = r := hk; omega)
  have HTC : Hid (∀ (g zr : Nat) (zs : List Int) (W : World) (p' : Nat), caR zs = true → zr ≤ 1000 → LCa W n0 g zs → RdS W r base S bs p' → _) := fun g zr zs W p' hr hz hc hrd => tkclass_any F hF g r base zr zs S bs p' W hr hz hc.lc hrd hbl
  rw [hL] at HTC ⊢
  obtain ⟨T, hT⟩ : ∃ T, blkL F z1 z2 L most (L.length + 1 - p) [] 0 p = T := ⟨_, rfl⟩
  have HT := Lib.hid hT
  rw [hT]
  have HERR : Hid (∀ (e : Ending) (w' : World) (er : Int) (p' : Nat), T = (er, [], 0) → er ≠ 0 → e = .returned (.tuple #[.slice none 0 0, .int .i64 er]) → RdS w' r base S bs p' → Mod (oneB r) w w' → ∃ (A : Option Addr) (c p' : Nat) (t : Int × List Tk × Nat), T = t ∧ e = .returned (.tuple #[.slice A t.2.1.length c, .int .i64 t.1]) ∧ w'.ownsRow (w.heap.size + 1) 52 3 (.slice A t.2.1.length c) t.2.1.length (t.2.1.flatMap tcC) ∧ RdS w' r base S bs p' ∧ (t.1 = 0 → p' = t.2.2) ∧ Mod (oneB r) w w') := fun e w' er p' ht hne he hr hm => ⟨none, 0, p', _, ht, he, World.ownsRow_nil _ _ _ _, hr, fun h => absurd h hne, hm⟩
  have HR1 := Lib.hid h1
  have HR2 := Lib.hid h2
  have HLL := Lib.hid hLl
  have hp8L : p ≤ L.length := by omega
  clear ha hb hrd hb1 hL h1 h2 hT HX1
  unfold alC at hW1 ⊢
  go_enter Tryz.func36, Tryz.ntmps36
  go_wp2
  go_step3
  go_wp2
  go_step3
  go_wp2
  go_loopg [6, 7, 8] (L.length + 1 - p) (fun gk v s7 s8 wr => ∃ (ts : List Tk) (size p' : Nat), s7 = .int .i64 0 ∧ s8 = .int .i64 (size : Int) ∧ T = blkL F z1 z2 L most gk ts size p' ∧ L.length + 1 ≤ p' + gk ∧ p' ≤ L.length ∧ (size = 0 ∨ (size : Int) ≤ most) ∧ size ≤ 258 * p' ∧ ts.length ≤ p' ∧ (∃ A c, v = .slice A ts.length c) ∧ TsI w wr r base S bs p' ga gb v ts)
  case atStart => exact ⟨[], 0, p, rfl, rfl, HT.out.symm, by omega, by omega, .inl rfl, by omega, Nat.zero_le _, ⟨none, 0, rfl⟩, HI1.out⟩
  case round =>
    obtain ⟨ts, size, p', rfl, rfl, hte, hpg, hpl, hsm, hs258, hlp, ⟨Av, cv, rfl⟩, hti⟩ := hrel
    have HTE := Lib.hid hte
    have HTI := Lib.hid hti
    obtain ⟨j, rfl⟩ : ∃ j, gk = j + 1 := ⟨gk - 1, by omega⟩
    obtain ⟨ll, hll⟩ : ∃ ll, ts.length = ll := ⟨_, rfl⟩
    have HLN := Lib.hid hll
    rw [hll] at HTI hlp ⊢
    have hlmax : ll ≤ 8000000 := by have := HLL.out; omega
    obtain ⟨W0, hW0⟩ : ∃ W0, W0 = wr := ⟨_, rfl⟩
    subst hW0
    obtain ⟨R, hR⟩ : ∃ R, W0.heap.size = R := ⟨_, rfl⟩
    have hNR : w.heap.size < R := by rw [← hR]; exact (Array.getElem?_eq_some_iff.1 hti.box).1
    clear hte hti hll HI1
    have HRB0 : Hid (RowB ((W0.alloc (.cells #[.int .i64 0, .int .i64 0, .int .u32 0, .int .i64 0, .int .i64 0, .int .u32 0, .bool false] 61)).alloc (.cells #[.pointer (some ⟨R, 0, none⟩), .pointer (some ⟨R, 3, none⟩)] 126)) R (0, 0, 0) (0, 0, 0) false) := by
      show RowB _ _ _ _ _
      rw [← hR]
      exact row3_alloc (heap_alloc_new W0 _) _
    have HPB0 : Hid (PtrB ((W0.alloc (.cells #[.int .i64 0, .int .i64 0, .int .u32 0, .int .i64 0, .int .i64 0, .int .u32 0, .bool false] 61)).alloc (.cells #[.pointer (some ⟨R, 0, none⟩), .pointer (some ⟨R, 3, none⟩)] 126)) R) := by
      show PtrB _ _
      have h := heap_alloc_new (W0.alloc (.cells #[.int .i64 0, .int .i64 0, .int .u32 0, .int .i64 0, .int .i64 0, .int .u32 0, .bool false] 61)) (.cells #[.pointer (some ⟨R, 0, none⟩), .pointer (some ⟨R, 3, none⟩)] 126)
      rw [World.size_alloc, hR] at h
      exact h
    have HI0 := Lib.hid (HTI.out.below (((Below.refl W0.heap.size W0).alloc (Nat.le_refl _) (.cells #[.int .i64 0, .int .i64 0, .int .u32 0, .int .i64 0, .int .i64 0, .int .u32 0, .bool false] 61)).alloc (by simp) (.cells #[.pointer (some ⟨R, 0, none⟩), .pointer (some ⟨R, 3, none⟩)] 126)))
    have HAV : Hid (∀ g, W0.heap.size ≤ g → (Value.slice Av ll cv).ownBlock ≠ some g) := fun g hg e => by
      have := (HTI.out.row.lt g e).2
      omega
    have hs0 := HTI.out.mod.size
    go_wp2
    rw [hR] at HAV
    go_loopg [7, 10, 11, 19] 2 (fun gk s7 s10 s11 i W => s7 = .int .i64 0 ∧ ∃ (k pp : Nat) (c1 c2 : Nat × Nat × Nat) (m : Bool), k + gk = 2 ∧ i = .int .i64 (k : Int) ∧ TsI w W r base S bs pp ga gb (.slice Av ll cv) ts ∧ RowB W R c1 c2 m ∧ PtrB W R ∧ R + 1 < W.heap.size ∧
      ((k = 0 ∧ c1 = (0, 0, 0) ∧ c2 = (0, 0, 0) ∧ m = false ∧ pp = p') ∨
       (k = 1 ∧ c2 = (0, 0, 0) ∧ m = true ∧ 256 < c1.1 ∧ c1.1 < 273 ∧ c1.2.1 ≤ 13 ∧ c1.2.2 < 8192 ∧ ∃ on1, clsF F z1 257 L p' = (0, c1, on1) ∧ pp = p' + on1 ∧ 1 ≤ on1) ∨
       (k = 2 ∧ m = true ∧ 256 < c1.1 ∧ c1.1 < 273 ∧ c1.2.1 ≤ 13 ∧ c1.2.2 < 8192 ∧ c2.1 < 30 ∧ c2.2.1 ≤ 13 ∧ c2.2.2 < 8192 ∧ ∃ on1 on2, clsF F z1 257 L p' = (0, c1, on1) ∧ clsF F z2 0 L (p' + on1) = (0, c2, on2) ∧ pp = p' + on1 + on2 ∧ 1 ≤ on1)))
    case atStart => exact ⟨rfl, 0, p', _, _, _, rfl, rfl, HI0.out, HRB0.out, HPB0.out, by simp; omega, .inl ⟨rfl, rfl, rfl, rfl, rfl⟩⟩
    case round =>
      obtain ⟨rfl, k, pp, c1, c2, m, hkg, rfl, hti, hrb, hpb, hRs, hcase⟩ := hrel
      have HTI2 := Lib.hid hti
      have HRB := Lib.hid hrb
      have HPB := Lib.hid hpb
      have g0 : wr.cell? ⟨R + 1, 0, none⟩ = some (.pointer (some ⟨R, 0, none⟩)) := cell_of_row _ _ 0 _ _ _ hpb
      have g1 : wr.cell? ⟨R + 1, 1, none⟩ = some (.pointer (some ⟨R, 3, none⟩)) := cell_of_row _ _ 1 _ _ _ hpb
      obtain ⟨⟨x0, x1, x2, x3⟩, _⟩ := row4_facts hti.box
      clear hti hrb hpb HRB0 HPB0 HI0
      rcases hcase with ⟨rfl, rfl, rfl, rfl, rfl⟩ | ⟨rfl, rfl, rfl, h256, h273, hcb, hcx, on1, hc1, rfl, hon⟩ | ⟨rfl, rfl, h256, h273, hcb, hcx, h30, hdb, hdx, on1, on2, hc1, hc2, rfl, hon⟩
      · have hgk : gk = 2 := by omega
        have HCL := Lib.hid (HTC.out ga 257 z1 wr pp HR1.out (by omega) (HCA.out wr HTI2.out.mod) HTI2.out.rd)
        obtain ⟨C, hC⟩ : ∃ C, clsF F z1 257 L pp = C := ⟨_, rfl⟩
        rw [hC] at HCL
        obtain ⟨er, ⟨n, b, x⟩, on⟩ := C
        dsimp only at HCL
        by_cases her : er = 0
        · subst her
          by_cases h256 : n = 256
          · have HTQ : Hid (T = (0, ts, pp + on)) := by show _ = _; rw [HTE.out, blkL, hC]; dsimp only; rw [if_neg (by simp), if_pos h256]
            have v1 : ((n : Int) == 256) = true := by simp; omega
            clear hC h256
            go_wp2_with (go_at_call 60; refine HCL.out.mono ?_; rintro e w5 ⟨p5, rfl, hrd5, hpe5, hm5⟩; have HI5 := Lib.hid (HTI2.out.part HRL.out hm5 hrd5); have hrb5 : RowB w5 R _ _ _ := hm5.keep HRB.out (fun h => by have h2 : R = r := h; have := HRL.out; omega); have hpb5 : PtrB w5 R := hm5.keep HPB.out (fun h => by have h2 : R + 1 = r := h; have := HRL.out; omega); have HPB5 := Lib.hid hpb5; have hs5 := hm5.size; obtain ⟨rfl, hon1, hnz, hb13, hx81⟩ := hpe5 (by first | rfl | trivial); obtain ⟨q0, q1, q2, q3, q4, q5, q6⟩ := rowB_cells hrb5; obtain ⟨f0, f1, f2, f3, f4, f5, f6⟩ := rowB_free hrb5; obtain ⟨W6, hW6⟩ : ∃ W6, (((w5.setCell ⟨R, 0, none⟩ (.int .i64 (n : Int))).setCell ⟨R, 1, none⟩ (.int .i64 (b : Int))).setCell ⟨R, 2, none⟩ (.int .u32 (x : Int))) = W6 := ⟨_, rfl⟩; have hrb6 := hrb5.first (n, b, x); dsimp only at hrb6; rw [hW6] at hrb6; have hm6 : Mod (oneB R) w5 W6 := (by rw [← hW6]; exact set3_mod _ _ _ _ _ _ _ _); have HI6 := Lib.hid (HI5.out.other HSL.out (by omega) (HAV.out R (Nat.le_refl _)) hm6); have HRB6 := Lib.hid hrb6; have HPB6 := Lib.hid (show PtrB W6 R from hm6.keep HPB5.out (fun h => by have h2 : R + 1 = R := h; omega)); have hs6 := hm6.size; obtain ⟨s0, s1, s2, s3, s4, s5, s6⟩ := rowB_cells hrb6; obtain ⟨e0, e1, e2, e3, e4, e5, e6⟩ := rowB_free hrb6; clear hrd5 hpe5 hm5 hrb5 hpb5 hrb6 hm6)
            try rw [Exit.noGoto_ret]
            refine bodyPost_ret (results_tmp2 rfl _ _ _) rfl ?_
            refine ⟨Av, cv, _, _, HTQ.out, by rw [HLN.out]; rfl, ?_, HI6.out.rd, fun _ => rfl, HI6.out.mod⟩
            have h := HI6.out.row
            rw [HLN.out]
            rw [HLN.out] at h
            exact h
          · by_cases hm : 256 < n
            · have HCC := Lib.hid hC
              clear hC
              have v1 : ((n : Int) == 256) = false := by simp; omega
              have v2 : decide ((256 : Int) < (n : Int)) = true := decide_eq_true (by omega)
              have v2n : decide (256 < n) = true := decide_eq_true hm
              go_wp2_with (go_at_call 60; refine HCL.out.mono ?_; rintro e w5 ⟨p5, rfl, hrd5, hpe5, hm5⟩; have HI5 := Lib.hid (HTI2.out.part HRL.out hm5 hrd5); have hrb5 : RowB w5 R _ _ _ := hm5.keep HRB.out (fun h => by have h2 : R = r := h; have := HRL.out; omega); have hpb5 : PtrB w5 R := hm5.keep HPB.out (fun h => by have h2 : R + 1 = r := h; have := HRL.out; omega); have HPB5 := Lib.hid hpb5; have hs5 := hm5.size; obtain ⟨rfl, hon1, hnz, hb13, hx81⟩ := hpe5 (by first | rfl | trivial); obtain ⟨q0, q1, q2, q3, q4, q5, q6⟩ := rowB_cells hrb5; obtain ⟨f0, f1, f2, f3, f4, f5, f6⟩ := rowB_free hrb5; obtain ⟨W6, hW6⟩ : ∃ W6, (((w5.setCell ⟨R, 0, none⟩ (.int .i64 (n : Int))).setCell ⟨R, 1, none⟩ (.int .i64 (b : Int))).setCell ⟨R, 2, none⟩ (.int .u32 (x : Int))) = W6 := ⟨_, rfl⟩; have hrb6 := hrb5.first (n, b, x); dsimp only at hrb6; rw [hW6] at hrb6; have hm6 : Mod (oneB R) w5 W6 := (by rw [← hW6]; exact set3_mod _ _ _ _ _ _ _ _); have HI6 := Lib.hid (HI5.out.other HSL.out (by omega) (HAV.out R (Nat.le_refl _)) hm6); have HRB6 := Lib.hid hrb6; have HPB6 := Lib.hid (show PtrB W6 R from hm6.keep HPB5.out (fun h => by have h2 : R + 1 = R := h; omega)); have hs6 := hm6.size; obtain ⟨s0, s1, s2, s3, s4, s5, s6⟩ := rowB_cells hrb6; obtain ⟨e0, e1, e2, e3, e4, e5, e6⟩ := rowB_free hrb6; obtain ⟨W7, hW7⟩ : ∃ W7, W6.setCell ⟨R, 6, none⟩ (.bool true) = W7 := ⟨_, rfl⟩; have hrb7 := hrb6.third true; rw [hW7] at hrb7; have hm7 : Mod (oneB R) W6 W7 := (by rw [← hW7]; exact set1_mod _ _ _ _); have HI7 := Lib.hid (HI6.out.other HSL.out (by omega) (HAV.out R (Nat.le_refl _)) hm7); have HRB7 := Lib.hid hrb7; have HPB7 := Lib.hid (show PtrB W7 R from hm7.keep HPB6.out (fun h => by have h2 : R + 1 = R := h; omega)); have hs7 := hm7.size; obtain ⟨t0, t1, t2, t3, t4, t5, t6⟩ := rowB_cells hrb7; clear hrb7 hm7; clear hrd5 hpe5 hm5 hrb5 hpb5 hrb6 hm6)
              go_roundg 1
              case measure => omega
              case rel => exact ⟨rfl, 1, _, _, _, _, rfl, by go_num, HI7.out, HRB7.out, HPB7.out, by omega, .inr (.inl ⟨rfl, rfl, rfl, hm, by show n < 273; omega, hb13, hx81, on, HCC.out, rfl, hon1⟩)⟩
            · have HTQ : Hid (T = match (joinR (n : Int) (b : Int) x 0 0 0 false) with
                | none => (3, [], 0)
                | some (y, l, d) => if size < d then (3, [], 0) else if most - (size : Int) < (max l 1 : Nat) then (5, [], 0) else blkL F z1 z2 L most j (ts ++ [(UInt8.ofNat y, l, d)]) (size + max l 1) (pp + on)) := by
                show _ = _
                rw [HTE.out, blkL, hC]
                dsimp only
                rw [if_neg (by simp), if_neg h256, if_neg (by omega), if_neg hm, if_neg hm, Nat.add_zero]
                rfl
              clear hC
              have v1 : ((n : Int) == 256) = false := by simp; omega
              have v2 : decide ((256 : Int) < (n : Int)) = false := decide_eq_false (by omega)
              have v2n : decide (256 < n) = false := decide_eq_false hm
              go_upto_region 11 with (go_at_call 60; refine HCL.out.mono ?_; rintro e w5 ⟨p5, rfl, hrd5, hpe5, hm5⟩; have HI5 := Lib.hid (HTI2.out.part HRL.out hm5 hrd5); have hrb5 : RowB w5 R _ _ _ := hm5.keep HRB.out (fun h => by have h2 : R = r := h; have := HRL.out; omega); have hpb5 : PtrB w5 R := hm5.keep HPB.out (fun h => by have h2 : R + 1 = r := h; have := HRL.out; omega); have HPB5 := Lib.hid hpb5; have hs5 := hm5.size; obtain ⟨rfl, hon1, hnz, hb13, hx81⟩ := hpe5 (by first | rfl | trivial); obtain ⟨q0, q1, q2, q3, q4, q5, q6⟩ := rowB_cells hrb5; obtain ⟨f0, f1, f2, f3, f4, f5, f6⟩ := rowB_free hrb5; obtain ⟨W6, hW6⟩ : ∃ W6, (((w5.setCell ⟨R, 0, none⟩ (.int .i64 (n : Int))).setCell ⟨R, 1, none⟩ (.int .i64 (b : Int))).setCell ⟨R, 2, none⟩ (.int .u32 (x : Int))) = W6 := ⟨_, rfl⟩; have hrb6 := hrb5.first (n, b, x); dsimp only at hrb6; rw [hW6] at hrb6; have hm6 : Mod (oneB R) w5 W6 := (by rw [← hW6]; exact set3_mod _ _ _ _ _ _ _ _); have HI6 := Lib.hid (HI5.out.other HSL.out (by omega) (HAV.out R (Nat.le_refl _)) hm6); have HRB6 := Lib.hid hrb6; have HPB6 := Lib.hid (show PtrB W6 R from hm6.keep HPB5.out (fun h => by have h2 : R + 1 = R := h; omega)); have hs6 := hm6.size; obtain ⟨s0, s1, s2, s3, s4, s5, s6⟩ := rowB_cells hrb6; obtain ⟨e0, e1, e2, e3, e4, e5, e6⟩ := rowB_free hrb6; obtain ⟨W7, hW7⟩ : ∃ W7, W6.setCell ⟨R, 6, none⟩ (.bool false) = W7 := ⟨_, rfl⟩; have hrb7 := hrb6.third false; rw [hW7] at hrb7; have hm7 : Mod (oneB R) W6 W7 := (by rw [← hW7]; exact set1_mod _ _ _ _); have HI7 := Lib.hid (HI6.out.other HSL.out (by omega) (HAV.out R (Nat.le_refl _)) hm7); have HRB7 := Lib.hid hrb7; have HPB7 := Lib.hid (show PtrB W7 R from hm7.keep HPB6.out (fun h => by have h2 : R + 1 = R := h; omega)); have hs7 := hm7.size; obtain ⟨t0, t1, t2, t3, t4, t5, t6⟩ := rowB_cells hrb7; clear hrb7 hm7; clear hrd5 hpe5 hm5 hrb5 hpb5 hrb6 hm6)
              have hpl2 := (rd_low HI7.out.rd).2.1
              have hLL := HLL.out
              obtain ⟨r0, r1, r2, r3, r4, r5, r6⟩ := rowB_cells HRB7.out
              dsimp only at r0 r1 r2 r3 r4 r5 r6
              have HJ := Lib.hid (fun W => join_all (n1 := (n : Int)) (b1 := (b : Int)) (x1 := x) (n2 := 0) (b2 := 0) (x2 := 0) false W (by omega) (by omega) (by omega) (by omega))
              obtain ⟨J, hJ⟩ : ∃ J, joinR (n : Int) (b : Int) x 0 0 0 false = J := ⟨_, rfl⟩
              rw [hJ] at HJ HTQ
              have HJB := Lib.hid (joinR_bd hJ)
              unfold agR at HJ
              clear hJ
              cases J with
              | none =>
                unfold joinV agT at HJ
                go_wp2_with (go_at_call 61; refine (HJ.out _).mono ?_; rintro e w8 ⟨rfl, hb8⟩; have HI8 := Lib.hid (HI7.out.below hb8); have HI9 := Lib.hid (HI8.out.below ((Below.refl w8.heap.size w8).alloc (Nat.le_refl _) (.cells #[.int .u8 0, .int .i64 0, .int .i64 0] 52))); clear hb8)
                try rw [Exit.noGoto_ret]
                refine bodyPost_ret (results_tmp2 rfl _ _ _) rfl ?_
                exact HERR.out _ _ 3 _ HTQ.out (by first | decide | assumption) (by rfl) HI9.out.rd HI9.out.mod
              | some q =>
                obtain ⟨y, l, d⟩ := q
                unfold joinV agT at HJ
                dsimp only at HTQ
                obtain ⟨hy256, hl258, hd⟩ := HJB.out y l d rfl
                have HYY : Hid ((UInt8.ofNat y).toNat = y) := by show _ = _; simp; omega
                have hmax : max (l : Int) 1 = ((max l 1 : Nat) : Int) := by omega
                obtain ⟨sz, hsz⟩ : ∃ sz, max l 1 = sz := ⟨_, rfl⟩
                rw [hsz] at HTQ hmax
                have hsz1 : 1 ≤ sz ∧ sz ≤ 258 := by omega
                have hsub : IntKind.i64.wrap (most - (size : Int)) = most - (size : Int) := IntWalk.i64_in _ (by omega)
                clear hsz
                by_cases hdd : size < d
                · rw [if_pos hdd] at HTQ
                  have u1 : decide ((size : Int) < (d : Int)) = true := decide_eq_true (by omega)
                  have u1n : decide (size < d) = true := decide_eq_true hdd
                  clear hdd hmax hsub
                  go_wp2_with (go_at_call 61; refine (HJ.out _).mono ?_; rintro e w8 ⟨rfl, hb8⟩; have HI8 := Lib.hid (HI7.out.below hb8); have HI9 := Lib.hid (HI8.out.below ((Below.refl w8.heap.size w8).alloc (Nat.le_refl _) (.cells #[.int .u8 (y : Int), .int .i64 (l : Int), .int .i64 (d : Int)] 52))); clear hb8)
                  try rw [Exit.noGoto_ret]
                  refine bodyPost_ret (results_tmp2 rfl _ _ _) rfl ?_
                  exact HERR.out _ _ 3 _ HTQ.out (by first | decide | assumption) (by rfl) HI9.out.rd HI9.out.mod
                · rw [if_neg hdd] at HTQ
                  have u1 : decide ((size : Int) < (d : Int)) = false := decide_eq_false (by omega)
                  have u1n : decide (size < d) = false := decide_eq_false hdd
                  by_cases hbig : most - (size : Int) < (sz : Int)
                  · rw [if_pos hbig] at HTQ
                    have u2 : decide (most - (size : Int) < (sz : Int)) = true := decide_eq_true hbig
                    clear hdd hbig
                    go_wp2_with (go_at_call 61; refine (HJ.out _).mono ?_; rintro e w8 ⟨rfl, hb8⟩; have HI8 := Lib.hid (HI7.out.below hb8); have HI9 := Lib.hid (HI8.out.below ((Below.refl w8.heap.size w8).alloc (Nat.le_refl _) (.cells #[.int .u8 (y : Int), .int .i64 (l : Int), .int .i64 (d : Int)] 52))); clear hb8)
                    try rw [Exit.noGoto_ret]
                    refine bodyPost_ret (results_tmp2 rfl _ _ _) rfl ?_
                    exact HERR.out _ _ 5 _ HTQ.out (by first | decide | assumption) (by rfl) HI9.out.rd HI9.out.mod
                  · rw [if_neg hbig] at HTQ
                    have u2 : decide (most - (size : Int) < (sz : Int)) = false := decide_eq_false hbig
                    have hsm2 : ((size + sz : Nat) : Int) ≤ most := by omega
                    have HFM : Hid ((ts ++ [(UInt8.ofNat y, l, d)]).flatMap tcC = ts.flatMap tcC ++ [.int .u8 (y : Int), .int .i64 (l : Int), .int .i64 (d : Int)]) := by show _ = _; rw [List.flatMap_append]; simp only [List.flatMap_cons, List.flatMap_nil, List.append_nil, tcC, HYY.out]
                    have HFL : Hid ((ts ++ [(UInt8.ofNat y, l, d)]).length = ll + 1) := by show _ = _; rw [List.length_append, HLN.out]; rfl
                    clear hdd hbig
                    go_wp2_with (first
                      | (go_at_call 61; refine (HJ.out _).mono ?_; rintro e w8 ⟨rfl, hb8⟩; have HI8 := Lib.hid (HI7.out.below hb8); have HI9 := Lib.hid (HI8.out.below ((Below.refl w8.heap.size w8).alloc (Nat.le_refl _) (.cells #[.int .u8 (y : Int), .int .i64 (l : Int), .int .i64 (d : Int)] 52))); clear hb8)
                      | (at_builtin; refine wpList_app ((w8.alloc (.cells #[.int .u8 (y : Int), .int .i64 (l : Int), .int .i64 (d : Int)] 52)).alloc (.cells #[.int .u8 (y : Int), .int .i64 (l : Int), .int .i64 (d : Int)] 52)) tcElem rfl (.tmp 75) (.tmp 77) rfl (w.heap.size + 1) (.slice Av ll cv) ll (ts.flatMap tcC) rfl (by have h := HI9.out.row; rw [HLN.out] at h; exact h.alloc _) (w8.heap.size + 2) (some ⟨w8.heap.size + 1, 0, none⟩) 1 1 [.int .u8 (y : Int), .int .i64 (l : Int), .int .i64 (d : Int)] rfl rfl (cells3_new w8 _ _ _ _ _) (by simp [Value.oneCell']) (by unfold maxLen; omega) (by omega) (by have := HI8.out.mod.size; have := (Array.getElem?_eq_some_iff.1 HI8.out.box).1; simp; omega) ?_; intro A7 c7 w9 hA; have HA7 := Lib.hid hA; clear hA))
                    have HI10 := Lib.hid ((HI9.out.below ((Below.refl _ _).alloc (Nat.le_refl _) _)).app (ts' := ts ++ [(UInt8.ofNat y, l, d)]) HSL.out HA7.out HFL.out.symm HFM.out.symm)
                    go_roundg j
                    case measure => omega
                    case rel => exact ⟨ts ++ [(UInt8.ofNat y, l, d)], size + sz, pp + on, rfl, by go_num, HTQ.out, by omega, by omega, .inr hsm2, by omega, by rw [HFL.out]; omega, ⟨A7, c7, by rw [HFL.out]⟩, HI10.out⟩
        · have HTQ : Hid (T = (er, [], 0)) := by show _ = _; rw [HTE.out, blkL, hC]; dsimp only; rw [if_pos her]
          have v1 : (er != 0) = true := by simpa using her
          clear hC
          go_wp2_with (go_at_call 60; refine HCL.out.mono ?_; rintro e w5 ⟨p5, rfl, hrd5, hpe5, hm5⟩; have HI5 := Lib.hid (HTI2.out.part HRL.out hm5 hrd5); have hrb5 : RowB w5 R _ _ _ := hm5.keep HRB.out (fun h => by have h2 : R = r := h; have := HRL.out; omega); have hpb5 : PtrB w5 R := hm5.keep HPB.out (fun h => by have h2 : R + 1 = r := h; have := HRL.out; omega); have HPB5 := Lib.hid hpb5; have hs5 := hm5.size; obtain ⟨q0, q1, q2, q3, q4, q5, q6⟩ := rowB_cells hrb5; obtain ⟨f0, f1, f2, f3, f4, f5, f6⟩ := rowB_free hrb5; obtain ⟨W6, hW6⟩ : ∃ W6, (((w5.setCell ⟨R, 0, none⟩ (.int .i64 (n : Int))).setCell ⟨R, 1, none⟩ (.int .i64 (b : Int))).setCell ⟨R, 2, none⟩ (.int .u32 (x : Int))) = W6 := ⟨_, rfl⟩; have hrb6 := hrb5.first (n, b, x); dsimp only at hrb6; rw [hW6] at hrb6; have hm6 : Mod (oneB R) w5 W6 := (by rw [← hW6]; exact set3_mod _ _ _ _ _ _ _ _); have HI6 := Lib.hid (HI5.out.other HSL.out (by omega) (HAV.out R (Nat.le_refl _)) hm6); have HRB6 := Lib.hid hrb6; have HPB6 := Lib.hid (show PtrB W6 R from hm6.keep HPB5.out (fun h => by have h2 : R + 1 = R := h; omega)); have hs6 := hm6.size; obtain ⟨s0, s1, s2, s3, s4, s5, s6⟩ := rowB_cells hrb6; obtain ⟨e0, e1, e2, e3, e4, e5, e6⟩ := rowB_free hrb6; clear hrd5 hpe5 hm5 hrb5 hpb5 hrb6 hm6)
          try rw [Exit.noGoto_ret]
          refine bodyPost_ret (results_tmp2 rfl _ _ _) rfl ?_
          exact HERR.out _ _ er _ HTQ.out (by first | decide | assumption) (by rfl) HI6.out.rd HI6.out.mod
      · have hgk : gk = 1 := by omega
        have HCL := Lib.hid (HTC.out gb 0 z2 wr (p' + on1) HR2.out (by omega) (HCB.out wr HTI2.out.mod) HTI2.out.rd)
        obtain ⟨C, hC⟩ : ∃ C, clsF F z2 0 L (p' + on1) = C := ⟨_, rfl⟩
        rw [hC] at HCL
        obtain ⟨er, ⟨n, b, x⟩, on⟩ := C
        dsimp only at HCL
        by_cases her : er = 0
        · subst her
          have HCC := Lib.hid hC
          have HC1 := Lib.hid hc1
          clear hC hc1
          have v1 : ((c1.1 : Int) == 256) = false := by simp; omega
          have v2 : decide ((256 : Int) < (c1.1 : Int)) = true := decide_eq_true (by omega)
          have v2n : decide (256 < c1.1) = true := decide_eq_true h256
          go_wp2_with (go_at_call 60; refine HCL.out.mono ?_; rintro e w5 ⟨p5, rfl, hrd5, hpe5, hm5⟩; have HI5 := Lib.hid (HTI2.out.part HRL.out hm5 hrd5); have hrb5 : RowB w5 R _ _ _ := hm5.keep HRB.out (fun h => by have h2 : R = r := h; have := HRL.out; omega); have hpb5 : PtrB w5 R := hm5.keep HPB.out (fun h => by have h2 : R + 1 = r := h; have := HRL.out; omega); have HPB5 := Lib.hid hpb5; have hs5 := hm5.size; obtain ⟨rfl, hon1, hnz, hb13, hx81⟩ := hpe5 (by first | rfl | trivial); obtain ⟨q0, q1, q2, q3, q4, q5, q6⟩ := rowB_cells hrb5; obtain ⟨f0, f1, f2, f3, f4, f5, f6⟩ := rowB_free hrb5; obtain ⟨W6, hW6⟩ : ∃ W6, (((w5.setCell ⟨R, 3, none⟩ (.int .i64 (n : Int))).setCell ⟨R, 4, none⟩ (.int .i64 (b : Int))).setCell ⟨R, 5, none⟩ (.int .u32 (x : Int))) = W6 := ⟨_, rfl⟩; have hrb6 := hrb5.second (n, b, x); dsimp only at hrb6; rw [hW6] at hrb6; have hm6 : Mod (oneB R) w5 W6 := (by rw [← hW6]; exact set3_mod _ _ _ _ _ _ _ _); have HI6 := Lib.hid (HI5.out.other HSL.out (by omega) (HAV.out R (Nat.le_refl _)) hm6); have HRB6 := Lib.hid hrb6; have HPB6 := Lib.hid (show PtrB W6 R from hm6.keep HPB5.out (fun h => by have h2 : R + 1 = R := h; omega)); have hs6 := hm6.size; obtain ⟨s0, s1, s2, s3, s4, s5, s6⟩ := rowB_cells hrb6; obtain ⟨e0, e1, e2, e3, e4, e5, e6⟩ := rowB_free hrb6; obtain ⟨W7, hW7⟩ : ∃ W7, W6.setCell ⟨R, 6, none⟩ (.bool true) = W7 := ⟨_, rfl⟩; have hrb7 := hrb6.third true; rw [hW7] at hrb7; have hm7 : Mod (oneB R) W6 W7 := (by rw [← hW7]; exact set1_mod _ _ _ _); have HI7 := Lib.hid (HI6.out.other HSL.out (by omega) (HAV.out R (Nat.le_refl _)) hm7); have HRB7 := Lib.hid hrb7; have HPB7 := Lib.hid (show PtrB W7 R from hm7.keep HPB6.out (fun h => by have h2 : R + 1 = R := h; omega)); have hs7 := hm7.size; obtain ⟨t0, t1, t2, t3, t4, t5, t6⟩ := rowB_cells hrb7; clear hrb7 hm7; clear hrd5 hpe5 hm5 hrb5 hpb5 hrb6 hm6)
          go_roundg 0
          case measure => omega
          case rel => exact ⟨rfl, 2, _, _, _, _, rfl, by go_num, HI7.out, HRB7.out, HPB7.out, by omega, .inr (.inr ⟨rfl, rfl, h256, h273, hcb, hcx, by show n < 30; omega, hb13, hx81, on1, on, HC1.out, HCC.out, rfl, hon⟩)⟩
        · have HTQ : Hid (T = (er, [], 0)) := by show _ = _; rw [HTE.out, blkL, hc1]; dsimp only; rw [if_neg (by simp), if_neg (by omega), hC]; dsimp only; rw [if_pos ⟨h256, her⟩]
          have v1 : (er != 0) = true := by simpa using her
          clear hC hc1
          go_wp2_with (go_at_call 60; refine HCL.out.mono ?_; rintro e w5 ⟨p5, rfl, hrd5, hpe5, hm5⟩; have HI5 := Lib.hid (HTI2.out.part HRL.out hm5 hrd5); have hrb5 : RowB w5 R _ _ _ := hm5.keep HRB.out (fun h => by have h2 : R = r := h; have := HRL.out; omega); have hpb5 : PtrB w5 R := hm5.keep HPB.out (fun h => by have h2 : R + 1 = r := h; have := HRL.out; omega); have HPB5 := Lib.hid hpb5; have hs5 := hm5.size; obtain ⟨q0, q1, q2, q3, q4, q5, q6⟩ := rowB_cells hrb5; obtain ⟨f0, f1, f2, f3, f4, f5, f6⟩ := rowB_free hrb5; obtain ⟨W6, hW6⟩ : ∃ W6, (((w5.setCell ⟨R, 3, none⟩ (.int .i64 (n : Int))).setCell ⟨R, 4, none⟩ (.int .i64 (b : Int))).setCell ⟨R, 5, none⟩ (.int .u32 (x : Int))) = W6 := ⟨_, rfl⟩; have hrb6 := hrb5.second (n, b, x); dsimp only at hrb6; rw [hW6] at hrb6; have hm6 : Mod (oneB R) w5 W6 := (by rw [← hW6]; exact set3_mod _ _ _ _ _ _ _ _); have HI6 := Lib.hid (HI5.out.other HSL.out (by omega) (HAV.out R (Nat.le_refl _)) hm6); have HRB6 := Lib.hid hrb6; have HPB6 := Lib.hid (show PtrB W6 R from hm6.keep HPB5.out (fun h => by have h2 : R + 1 = R := h; omega)); have hs6 := hm6.size; obtain ⟨s0, s1, s2, s3, s4, s5, s6⟩ := rowB_cells hrb6; obtain ⟨e0, e1, e2, e3, e4, e5, e6⟩ := rowB_free hrb6; clear hrd5 hpe5 hm5 hrb5 hpb5 hrb6 hm6)
          try rw [Exit.noGoto_ret]
          refine bodyPost_ret (results_tmp2 rfl _ _ _) rfl ?_
          exact HERR.out _ _ er _ HTQ.out (by first | decide | assumption) (by rfl) HI6.out.rd HI6.out.mod
      · have hgk : gk = 0 := by omega
        obtain ⟨n1, b1, x1⟩ := c1
        obtain ⟨n2, b2, x2⟩ := c2
        dsimp only at h256 h273 hcb hcx h30 hdb hdx
        have HTQ : Hid (T = match (joinR (n1 : Int) (b1 : Int) x1 (n2 : Int) (b2 : Int) x2 true) with
          | none => (3, [], 0)
          | some (y, l, d) => if size < d then (3, [], 0) else if most - (size : Int) < (max l 1 : Nat) then (5, [], 0) else blkL F z1 z2 L most j (ts ++ [(UInt8.ofNat y, l, d)]) (size + max l 1) (p' + on1 + on2)) := by
          show _ = _
          rw [HTE.out, blkL, hc1]
          dsimp only
          rw [if_neg (by simp), if_neg (by omega), hc2]
          dsimp only
          rw [if_neg (by simp), if_pos h256, if_pos h256]
          rfl
        clear hc1 hc2
        have hpl2 := (rd_low HTI2.out.rd).2.1
        have hLL := HLL.out
        obtain ⟨r0, r1, r2, r3, r4, r5, r6⟩ := rowB_cells HRB.out
        dsimp only at r0 r1 r2 r3 r4 r5 r6
        have HJ := Lib.hid (fun W => join_all (n1 := (n1 : Int)) (b1 := (b1 : Int)) (x1 := x1) (n2 := (n2 : Int)) (b2 := (b2 : Int)) (x2 := x2) true W (by omega) (by omega) (by omega) (by omega))
        obtain ⟨J, hJ⟩ : ∃ J, joinR (n1 : Int) (b1 : Int) x1 (n2 : Int) (b2 : Int) x2 true = J := ⟨_, rfl⟩
        rw [hJ] at HJ HTQ
        have HJB := Lib.hid (joinR_bd hJ)
        unfold agR at HJ
        clear hJ
        cases J with
        | none =>
          unfold joinV agT at HJ
          go_wp2_with (go_at_call 61; refine (HJ.out _).mono ?_; rintro e w8 ⟨rfl, hb8⟩; have HI8 := Lib.hid (HTI2.out.below hb8); have HI9 := Lib.hid (HI8.out.below ((Below.refl w8.heap.size w8).alloc (Nat.le_refl _) (.cells #[.int .u8 0, .int .i64 0, .int .i64 0] 52))); clear hb8)
          try rw [Exit.noGoto_ret]
          refine bodyPost_ret (results_tmp2 rfl _ _ _) rfl ?_
          exact HERR.out _ _ 3 _ HTQ.out (by first | decide | assumption) (by rfl) HI9.out.rd HI9.out.mod
        | some q =>
          obtain ⟨y, l, d⟩ := q
          unfold joinV agT at HJ
          dsimp only at HTQ
          obtain ⟨hy256, hl258, hd⟩ := HJB.out y l d rfl
          have HYY : Hid ((UInt8.ofNat y).toNat = y) := by show _ = _; simp; omega
          have hmax : max (l : Int) 1 = ((max l 1 : Nat) : Int) := by omega
          obtain ⟨sz, hsz⟩ : ∃ sz, max l 1 = sz := ⟨_, rfl⟩
          rw [hsz] at HTQ hmax
          have hsz1 : 1 ≤ sz ∧ sz ≤ 258 := by omega
          have hsub : IntKind.i64.wrap (most - (size : Int)) = most - (size : Int) := IntWalk.i64_in _ (by omega)
          clear hsz
          by_cases hdd : size < d
          · rw [if_pos hdd] at HTQ
            have u1 : decide ((size : Int) < (d : Int)) = true := decide_eq_true (by omega)
            have u1n : decide (size < d) = true := decide_eq_true hdd
            clear hdd hmax hsub
            go_wp2_with (go_at_call 61; refine (HJ.out _).mono ?_; rintro e w8 ⟨rfl, hb8⟩; have HI8 := Lib.hid (HTI2.out.below hb8); have HI9 := Lib.hid (HI8.out.below ((Below.refl w8.heap.size w8).alloc (Nat.le_refl _) (.cells #[.int .u8 (y : Int), .int .i64 (l : Int), .int .i64 (d : Int)] 52))); clear hb8)
            try rw [Exit.noGoto_ret]
            refine bodyPost_ret (results_tmp2 rfl _ _ _) rfl ?_
            exact HERR.out _ _ 3 _ HTQ.out (by first | decide | assumption) (by rfl) HI9.out.rd HI9.out.mod
          · rw [if_neg hdd] at HTQ
            have u1 : decide ((size : Int) < (d : Int)) = false := decide_eq_false (by omega)
            have u1n : decide (size < d) = false := decide_eq_false hdd
            by_cases hbig : most - (size : Int) < (sz : Int)
            · rw [if_pos hbig] at HTQ
              have u2 : decide (most - (size : Int) < (sz : Int)) = true := decide_eq_true hbig
              clear hdd hbig
              go_wp2_with (go_at_call 61; refine (HJ.out _).mono ?_; rintro e w8 ⟨rfl, hb8⟩; have HI8 := Lib.hid (HTI2.out.below hb8); have HI9 := Lib.hid (HI8.out.below ((Below.refl w8.heap.size w8).alloc (Nat.le_refl _) (.cells #[.int .u8 (y : Int), .int .i64 (l : Int), .int .i64 (d : Int)] 52))); clear hb8)
              try rw [Exit.noGoto_ret]
              refine bodyPost_ret (results_tmp2 rfl _ _ _) rfl ?_
              exact HERR.out _ _ 5 _ HTQ.out (by first | decide | assumption) (by rfl) HI9.out.rd HI9.out.mod
            · rw [if_neg hbig] at HTQ
              have u2 : decide (most - (size : Int) < (sz : Int)) = false := decide_eq_false hbig
              have hsm2 : ((size + sz : Nat) : Int) ≤ most := by omega
              have HFM : Hid ((ts ++ [(UInt8.ofNat y, l, d)]).flatMap tcC = ts.flatMap tcC ++ [.int .u8 (y : Int), .int .i64 (l : Int), .int .i64 (d : Int)]) := by show _ = _; rw [List.flatMap_append]; simp only [List.flatMap_cons, List.flatMap_nil, List.append_nil, tcC, HYY.out]
              have HFL : Hid ((ts ++ [(UInt8.ofNat y, l, d)]).length = ll + 1) := by show _ = _; rw [List.length_append, HLN.out]; rfl
              clear hdd hbig
              go_wp2_with (first
                | (go_at_call 61; refine (HJ.out _).mono ?_; rintro e w8 ⟨rfl, hb8⟩; have HI8 := Lib.hid (HTI2.out.below hb8); have HI9 := Lib.hid (HI8.out.below ((Below.refl w8.heap.size w8).alloc (Nat.le_refl _) (.cells #[.int .u8 (y : Int), .int .i64 (l : Int), .int .i64 (d : Int)] 52))); clear hb8)
                | (at_builtin; refine wpList_app ((w8.alloc (.cells #[.int .u8 (y : Int), .int .i64 (l : Int), .int .i64 (d : Int)] 52)).alloc (.cells #[.int .u8 (y : Int), .int .i64 (l : Int), .int .i64 (d : Int)] 52)) tcElem rfl (.tmp 75) (.tmp 77) rfl (w.heap.size + 1) (.slice Av ll cv) ll (ts.flatMap tcC) rfl (by have h := HI9.out.row; rw [HLN.out] at h; exact h.alloc _) (w8.heap.size + 2) (some ⟨w8.heap.size + 1, 0, none⟩) 1 1 [.int .u8 (y : Int), .int .i64 (l : Int), .int .i64 (d : Int)] rfl rfl (cells3_new w8 _ _ _ _ _) (by simp [Value.oneCell']) (by unfold maxLen; omega) (by omega) (by have := HI8.out.mod.size; have := (Array.getElem?_eq_some_iff.1 HI8.out.box).1; simp; omega) ?_; intro A7 c7 w9 hA; have HA7 := Lib.hid hA; clear hA))
              have HI10 := Lib.hid ((HI9.out.below ((Below.refl _ _).alloc (Nat.le_refl _) _)).app (ts' := ts ++ [(UInt8.ofNat y, l, d)]) HSL.out HA7.out HFL.out.symm HFM.out.symm)
              go_roundg j
              case measure => omega
              case rel => exact ⟨ts ++ [(UInt8.ofNat y, l, d)], size + sz, p' + on1 + on2, rfl, by go_num, HTQ.out, by omega, by omega, .inr hsm2, by omega, by rw [HFL.out]; omega, ⟨A7, c7, by rw [HFL.out]⟩, HI10.out⟩
end Go.Proofs.YtgbbdgoleiolhaaGreat
/- Layer 13: a block is taken. -/
namespace Go.Proofs.YtgbbdgoleiolhaaGreat
open Go.RowKit BitsP SymP

theorem blktake_nil (v : Value) (w : World) : Calls Tryz.prog 15 #[.pointer none, v] w fun e w' => e = .returned (.tuple #[.slice none 0 0, .int .i64 1]) ∧ w = w' := by
  go_enter Tryz.func15, Tryz.ntmps15
  go_wp2
  go_ret2
  exact ⟨rfl, rfl⟩
theorem LCa.below_ {w w' : World} {n g : Nat} {zs : List Int} (h : LCa w n g zs) (hb : Below w.heap.size w w') : LCa w' n g zs := h.keep2 (Mod.of_below hb) (fun _ h => h.elim)
set_option maxRecDepth 100000 in
set_option maxHeartbeats 2000000 in
theorem blktake_any (F : List Int → List Bool → Int × Int × Nat) (hF : FunT F) (r base : Nat) (S : Nat → Prop) (bs : List UInt8) (p : Nat) (most : Int) (w : World) (hrd : RdS w r base S bs p) (hbl : bs.length ≤ 1000000) (m0 : -9223372036854775808 ≤ most) (m1 : most ≤ 9223372036854775807) :
    Calls Tryz.prog 15 #[.pointer (some ⟨r, 0, none⟩), .int .i64 most] w
      fun e w' => ∃ (A : Option Addr) (c p' : Nat) (t : Int × List Tk × Nat), blkF F (unpack bs) p most = t ∧ e = .returned (.tuple #[.slice A t.2.1.length c, .int .i64 t.1]) ∧ w'.ownsRow w.heap.size 52 3 (.slice A t.2.1.length c) t.2.1.length (t.2.1.flatMap tcC) ∧ RdS w' r base S bs p' ∧ (t.1 = 0 → p' = t.2.2) ∧ Mod (oneB r) w w' := by
  obtain ⟨hrl0, hp8, _⟩ := rd_low hrd
  have HA := Lib.hid (tkalph_any F hF r base S bs p w hrd hbl)
  clear hrd
  go_enter Tryz.func15, Tryz.ntmps15
  go_wp2_with fail
  refine HA.out.mono ?_
  rintro e w2 ⟨a, b, n, m, er, p2, rfl, hrd2, hm2, ⟨hne, hbk⟩ | ⟨rfl, z1, z2, ga, gb, rfl, rfl, rfl, rfl, h1, h2, hz1, hz2, hla, hlb, hbk⟩⟩
  · have HB := Lib.hid (hbk most)
    have HR2 := Lib.hid hrd2
    have HM2 := Lib.hid hm2
    have HNE := Lib.hid hne
    have t1 : (er != 0) = true := by simpa using hne
    have hbx := (Below.refl w2.heap.size w2).alloc (Nat.le_refl _) (.cells #[.pointer a, .int .i64 n, .pointer b, .int .i64 m] 79)
    have HBX := Lib.hid hbx
    clear hne hbk hrd2 hm2 hbx
    unfold alC
    go_wp2
    refine bodyPost_ret (results_tmp2 rfl _ _ _) rfl ?_
    exact ⟨none, 0, p2, _, HB.out, by rfl, World.ownsRow_nil _ _ _ _, HR2.out.keep (Mod.of_below HBX.out) (fun _ _ h => h), fun h => absurd h HNE.out, HM2.out.then_ ((Mod.of_below HBX.out).mono fun _ h => h.elim)⟩
  · have HB := Lib.hid (hbk most)
    have HM2 := Lib.hid hm2
    have hbx := (Below.refl w2.heap.size w2).alloc (Nat.le_refl _) (.cells #[.pointer (some ⟨ga, 0, none⟩), .int .i64 257, .pointer (some ⟨gb, 0, none⟩), .int .i64 0] 79)
    have hs2 := hm2.size
    have HTS := Lib.hid (tktoks_any F hF r base w.heap.size ga gb S bs p2 most z1 z2 (w2.alloc (.cells #[.pointer (some ⟨ga, 0, none⟩), .int .i64 257, .pointer (some ⟨gb, 0, none⟩), .int .i64 0] 79)) h1 h2 hz1 hz2 (hla.below_ hbx) (hlb.below_ hbx) hrl0 (hrd2.keep (Mod.of_below hbx) (fun _ _ h => h)) hbl m0 m1)
    have HBX := Lib.hid hbx
    clear hbk hrd2 hm2 hbx hla hlb
    unfold alC at HTS ⊢
    go_wp2_with (go_at_call 36; refine HTS.out.mono ?_; rintro e w3 ⟨A3, c3, p3, t3, ht3, rfl, hown3, hrd3, hpe3, hm3⟩; have HT3 := Lib.hid (And.intro ht3 (And.intro hown3 (And.intro hrd3 (And.intro hpe3 hm3)))); clear ht3 hown3 hrd3 hpe3 hm3)
    obtain ⟨ht3, hown3, hrd3, hpe3, hm3⟩ := HT3.out
    refine bodyPost_ret (results_tmp2 rfl _ _ _) rfl ?_
    exact ⟨A3, c3, p3, t3, HB.out.trans ht3, by rfl, own_leT hown3 (by simp; omega), hrd3, hpe3, (HM2.out.then_ ((Mod.of_below HBX.out).mono fun _ h => h.elim)).then_ hm3⟩
end Go.Proofs.YtgbbdgoleiolhaaGreat
/- Layer 13: a block of a token goes there and back. -/
namespace Go.Proofs.YtgbbdgoleiolhaaGreat
open Go.RowKit BitsP SymP
attribute [local go_sem ↓] Go.wp_at_zero Go.wp_at_succ

/-- The chapter's token. -/
def tk7 : Tk := (7, 0, 0)
theorem ok7 : ∀ t ∈ [tk7], okT t := fun t ht => by
  obtain rfl : t = tk7 := by simpa using ht
  exact .inl ⟨rfl, rfl⟩
set_option maxRecDepth 100000 in
set_option maxHeartbeats 2000000 in
theorem lives13_any (w : World) : Calls Tryz.prog 6 #[] w fun e w' => e = .returned (.bool true) ∧ Below w.heap.size w w' := by
  obtain ⟨F, hF⟩ := funT_ex
  obtain ⟨W2, hW2⟩ : ∃ W2, (w.alloc (.cells zeroWr 27)).alloc (.cells #[.int .u8 7, .int .i64 0, .int .i64 0] 52) = W2 := ⟨_, rfl⟩
  have HB2 : Hid (Below w.heap.size w W2) := by show Below _ _ _; rw [← hW2]; exact ((Below.refl _ w).alloc (Nat.le_refl _) _).alloc (by simp) _
  have HWR : Hid (WrS W2 w.heap.size w.heap.size (oneB w.heap.size) []) := by
    show WrS _ _ _ _ _
    rw [← hW2]
    exact (WrS.zero _ (heap_alloc_new w _)).keep (Mod.of_below ((Below.refl _ _).alloc (Nat.le_refl _) _)) (fun _ _ h => h)
  have hx := heap_alloc_new (w.alloc (.cells zeroWr 27)) (.cells #[.int .u8 7, .int .i64 0, .int .i64 0] 52)
  rw [hW2, World.size_alloc] at hx
  have hsz : W2.heap.size = w.heap.size + 2 := by rw [← hW2]; simp
  have HTA : Hid (∀ k t, [tk7][k]? = some t → TkAt W2 (some ⟨w.heap.size + 1, 0, none⟩) k (t.1.toNat : Int) (t.2.1 : Int) (t.2.2 : Int)) := fun k t ht => by
    cases k with
    | zero =>
      obtain rfl : tk7 = t := by simpa using ht
      exact ⟨_, 0, rfl, by omega, cell_of_row _ _ 0 _ _ _ hx, cell_of_row _ _ 1 _ _ _ hx, cell_of_row _ _ 2 _ _ _ hx⟩
    | succ k => simp at ht
  have HP := Lib.hid (blkput_any (some ⟨w.heap.size + 1, 0, none⟩) 1 1 w.heap.size w.heap.size [tk7] (oneB w.heap.size) [] W2 rfl (by omega) ok7 HTA.out (fun _ a ha hk => by
    cases ha
    have h2 : w.heap.size + 1 = w.heap.size := hk
    omega) HWR.out (by simp) (by omega))
  rw [List.nil_append] at HP
  obtain ⟨bs, hbs⟩ : ∃ bs, pack (blkB [tk7]) = bs := ⟨_, rfl⟩
  have hun : unpack bs = blkB [tk7] ++ zeros (lack (blkB [tk7]).length) := by rw [← hbs, pack_unpack]
  have hbk : blkF F (unpack bs) 0 1 = (0, [tk7], 0 + (blkB [tk7]).length) := blkF_back hF ok7 (by exact ⟨.inl ⟨rfl, rfl⟩, Nat.le_refl _, by decide, trivial⟩) (by rw [List.drop_zero]; exact hun)
  have hlen : (blkB [tk7]).length ≤ 300000 := by have h := blkB_few ok7; simp at h; omega
  have hbl : bs.length ≤ 300000 := by rw [← hbs]; exact Nat.le_trans (pack_length _) hlen
  have HTK : Hid (∀ (W : World) (base g : Nat) (S : Nat → Prop), RdS W g base S bs 0 → _) := fun W base g S hW => blktake_any F hF g base S bs 0 1 W hW (by omega) (by omega) (by omega)
  rw [hbk] at HTK
  have HPK : Hid (pack (blkB [tk7]) = bs) := hbs
  have HLN := Lib.hid hlen
  have HW2 := Lib.hid hW2
  unfold zeroWr at HW2
  clear hx hbs hun hbk hlen hW2
  go_enter Tryz.func6, Tryz.ntmps6
  go_upto_region 2 with fail
  go_wp2_with fail
  rw [HW2.out]
  go_wp2_with (first
    | (go_at_call 7; refine HP.out.mono ?_; rintro e w3 ⟨rfl, S3, hw3, hm3, hs3⟩; have HW3 := Lib.hid hw3; have HB3 := Lib.hid (hm3.below HB2.out HB2.out.size (fun k hk => by cases hk; exact Nat.le_refl _)); clear hw3 hm3 hs3)
    | (go_at_call 12; refine (wbytes_any w.heap.size w.heap.size S3 (blkB [tk7]) w3 HW3.out (by have := HLN.out; omega)).mono ?_; rintro e w5 ⟨A5, c5, rfl, hown, hbel⟩; rw [HPK.out] at hown; rw [HPK.out]; have HO5 := Lib.hid (Cells.of_own hown); have HB5 := Lib.hid (HB3.out.trans (hbel.mono HB3.out.size)); clear hown hbel)
    | (go_at_call 14; refine (rnew_any A5 bs.length c5 w5.heap.size bs w5 rfl (by omega) (Nat.le_refl _) HO5.out).mono ?_; rintro e w6 ⟨g6, S6, rfl, hrd6, hb6, hS6⟩; have HR6 := Lib.hid hrd6; have HB6 := Lib.hid (HB5.out.trans (hb6.mono HB5.out.size)); have HG6 : Hid (w5.heap.size ≤ g6) := hS6 g6 (rd_low hrd6).2.2; clear hrd6 hb6 hS6)
    | (go_at_call 15; refine (HTK.out w6 w5.heap.size g6 S6 HR6.out).mono ?_; rintro e w7 ⟨A7, c7, p7, t7, rfl, rfl, hown, hrd7, hpe, hm7⟩; obtain ⟨b7, o7, rfl, hb7, hc7⟩ := (cells_of_ownP hown) (by show 0 < 3; decide); have q7 : w7.cell? ⟨b7, o7, none⟩ = some (.int .u8 7) := hc7 0 _ rfl; have HB7 := Lib.hid (hm7.below HB6.out HB6.out.size (fun k hk => by cases hk; have := HG6.out; have := HB5.out.size; omega)); clear hown hrd7 hm7 hpe hb7 hc7))
  go_ret
  exact ⟨rfl, HB7.out⟩
end Go.Proofs.YtgbbdgoleiolhaaGreat
/- Layer 13: the reference's bits of a symbol, and what is behind it. -/
namespace Go.Proofs.YtgbbdgoleiolhaaGreat
open Go.RowKit BitsP SymP
attribute [local go_sem ↓] Go.wp_at_zero Go.wp_at_succ

set_option maxRecDepth 100000 in
set_option maxHeartbeats 1000000 in
theorem rbits13_any (gl gv n : Nat) (ws : List Nat) (c : Nat × Nat × Nat) (w : World) (hws : ws.length = n) (hn : n ≤ 320) {x : Nat} (hx : ws[c.1]? = some x) (h0 : 0 < x) (hl : NB w gl (lensW ws)) (hv : IntBlock w gv (caV (zN (lensW ws)))) (h2 : c.2.1 ≤ 13) (h3 : c.2.2 < 2 ^ c.2.1) :
    Calls Tryz.prog 33 #[.slice (some ⟨gl, 0, none⟩) n n, .slice (some ⟨gv, 0, none⟩) n n, .agg #[.int .i64 (c.1 : Int), .int .i64 (c.2.1 : Int), .int .u32 (c.2.2 : Int)]] w
      fun e w' => ∃ A c', e = .returned (.slice A (clsB (zN (lensW ws)) c).length c') ∧ OwnB w' w.heap.size 5 (.slice A (clsB (zN (lensW ws)) c).length c') (clsB (zN (lensW ws)) c).length (bitBytes (clsB (zN (lensW ws)) c)) ∧ Below w.heap.size w w' := by
  obtain ⟨y, v, k, hy, hyl, hsy, hvl, hy15⟩ := lensW_sym (by omega) hx h0
  have hsn : c.1 < n := by have := (List.getElem?_eq_some_iff.1 hx).1; omega
  have HVV : Hid ((caV (zN (lensW ws)))[c.1]? = some (v : Int)) := hy.val
  have HYL := Lib.hid hyl
  have HNL := Lib.hid hl
  have HIV := Lib.hid hv
  obtain ⟨num, nb, ex⟩ := c
  dsimp only at h2 h3 hsn HVV HYL hsy
  have h32 : ex < 4294967296 := Nat.lt_of_lt_of_le h3 (Nat.le_trans (Nat.pow_le_pow_right (by decide) h2) (by decide))
  have HCB : Hid (clsB (zN (lensW ws)) (num, nb, ex) = codeB v y ++ bitsOf ex nb) := by show _ = _; unfold clsB; rw [hsy]
  have HLEN : Hid ((clsB (zN (lensW ws)) (num, nb, ex)).length = y + nb) := by show _ = _; rw [HCB.out, List.length_append, codeB_len, bitsOf_length]
  have HBY : Hid (byteCells (bitBytes (clsB (zN (lensW ws)) (num, nb, ex))) = byteCells (bitBytes (codeB v y)) ++ byteCells (bitBytes (bitsOf ex nb))) := by show _ = _; rw [HCB.out, bitBytes_append, byteCells_append]
  rw [HLEN.out]
  have HREF := Lib.hid (fun W => refBits_any v y W hvl hy15)
  have HRW := Lib.hid (fun W => refRow_any (ex : Int) (nb : Int) W (by omega) (by omega) (by omega) (by omega))
  rw [cnt_nat (k := nb) (by omega), Int.toNat_natCast] at HRW
  obtain ⟨W1, hW1⟩ : ∃ W1, w.alloc (.cells #[.int .i64 (num : Int), .int .i64 (nb : Int), .int .u32 (ex : Int)] 71) = W1 := ⟨_, rfl⟩
  have HB1 : Hid (Below w.heap.size w W1) := by show Below _ _ _; rw [← hW1]; exact (Below.refl _ w).alloc (Nat.le_refl _) _
  have HX1 : Hid (W1.heap[w.heap.size]? = some (.cells #[.int .i64 (num : Int), .int .i64 (nb : Int), .int .u32 (ex : Int)] 71 (0, 0))) := by show _ = _; rw [← hW1]; exact heap_alloc_new w _
  have HP : Hid (∀ W, Below W1.heap.size W1 W → W.cell? ⟨w.heap.size, 0, none⟩ = some (.int .i64 (num : Int)) ∧ W.cell? ⟨w.heap.size, 1, none⟩ = some (.int .i64 (nb : Int)) ∧ W.cell? ⟨w.heap.size, 2, none⟩ = some (.int .u32 (ex : Int)) ∧ W.cell? ⟨gl, num, none⟩ = some (.int .i64 (y : Int)) ∧ W.cell? ⟨gv, num, none⟩ = some (.int .i64 (v : Int))) := fun W hW => by
    have hlt := HX1.out
    have hz1 : w.heap.size < W1.heap.size := (Array.getElem?_eq_some_iff.1 hlt).1
    have h := (hW.block _ hz1).trans hlt
    have hb := HB1.out.trans (hW.mono HB1.out.size)
    exact ⟨cell_of_row _ _ 0 _ _ _ h, cell_of_row _ _ 1 _ _ _ h, cell_of_row _ _ 2 _ _ _ h, (HNL.out.below hb HNL.out.lt).cell HYL.out, (hb.cell (p := ⟨gv, num, none⟩) (ib_lt HIV.out)).trans (ib_cell HIV.out HVV.out)⟩
  have HW1 := Lib.hid hW1
  clear hws hx h0 hl hv hy hyl hsy hW1
  have S5 := HP.out W1 (Below.refl _ _)
  have i0 : (0 : Int) ≤ (num : Int) := by omega
  have i1 : (num : Int) < (n : Int) := by omega
  go_enter Tryz.func33, Tryz.ntmps33
  go_upto_region 1 with fail
  rw [HW1.out]
  have S6 : W1.cell? ⟨w.heap.size, 0, none⟩ = some (.int .i64 (num : Int)) ∧ W1.cell? ⟨gl, num, none⟩ = some (.int .i64 (y : Int)) ∧ W1.cell? ⟨gv, num, none⟩ = some (.int .i64 (v : Int)) := ⟨S5.1, S5.2.2.2⟩
  go_region_held3 (fun W => W.cell? ⟨w.heap.size, 0, none⟩ = some (.int .i64 (num : Int)) ∧ W.cell? ⟨gl, num, none⟩ = some (.int .i64 (y : Int)) ∧ W.cell? ⟨gv, num, none⟩ = some (.int .i64 (v : Int))) (first | exact S6 | exact S7)
    ((go_at_call 56; refine (HREF.out _).mono ?_; rintro e w6 ⟨A6, c6, rfl, hown, hbel⟩; have HO6 := Lib.hid (own_leP hown HB1.out.size); have HB6 := Lib.hid ((Below.refl W1.heap.size W1).drew.trans (hbel.mono (Nat.le_refl _))); clear hown hbel; have S8 := HP.out _ HB6.out; have S7 := And.intro S8.1 S8.2.2.2))
  have HB7 : Hid (Below w.heap.size w w6) := HB1.out.trans (HB6.out.mono HB1.out.size)
  obtain ⟨_, c1, c2, _, _⟩ := HP.out w6 HB6.out
  go_wp2_with (first
    | (go_at_call 41; refine (HRW.out _).mono ?_; rintro e w8 ⟨A8, c8, rfl, ho8, hb8⟩; have HO8 := Lib.hid (Cells.of_own ho8); have HOW8 := Lib.hid (own_keep HO6.out (Mod.of_below hb8) (fun _ _ h => h)); have HB8 := Lib.hid (HB7.out.trans (hb8.mono HB7.out.size)); clear ho8 hb8)
    | (at_builtin; refine wpList_app w8 byteElem3 rfl (.tmp 19) (.tmp 24) rfl w.heap.size (.slice A6 y c6) y (byteCells (bitBytes (codeB v y))) rfl HOW8.out w8.heap.size A8 nb c8 (byteCells (bitBytes (bitsOf ex nb))) rfl (by rw [byteCells_length, bitBytes_length, bitsOf_length, Nat.mul_one]) HO8.out (byteCells_one _) (by unfold maxLen; omega) (by omega) HB8.out.size ?_; intro A10 c10 w10 hA10; have HA10 := Lib.hid hA10; clear hA10))
  go_ret
  refine ⟨A10, c10, rfl, ?_, HA10.out.below HB8.out HB8.out.size (own_base HOW8.out)⟩
  have h := HA10.out.own
  unfold OwnB
  rw [HBY.out]
  exact h
end Go.Proofs.YtgbbdgoleiolhaaGreat
/- Layer 13: the reference's Put. -/
namespace Go.Proofs.YtgbbdgoleiolhaaGreat
open Go.RowKit BitsP SymP
attribute [local go_sem ↓] Go.wp_at_zero Go.wp_at_succ

theorem IntBlock.below13 {w W : World} {g B : Nat} {xs : List Int} (h : IntBlock w g xs) (hb : Below B w W) (hg : g < B) : IntBlock W g xs := (hb.block g hg).trans h
set_option maxRecDepth 100000 in
set_option maxHeartbeats 8000000 in
theorem rput13_any (A : Option Addr) (l c : Nat) (ts : List Tk) (w : World) (hl : ts.length = l) (hm : l ≤ 65536) (hk : ∀ t ∈ ts, okT t) (hc : ∀ k t, ts[k]? = some t → TkAt w A k (t.1.toNat : Int) (t.2.1 : Int) (t.2.2 : Int)) :
    Calls Tryz.prog 11 #[.slice A l c] w fun e w' => ∃ A' c', e = .returned (.slice A' (blkB ts).length c') ∧ OwnB w' w.heap.size 5 (.slice A' (blkB ts).length c') (blkB ts).length (bitBytes (blkB ts)) ∧ Below w.heap.size w w' := by
  have HWT := Lib.hid (rweights_any A l c ts w hl hm hk hc)
  have HK := Lib.hid hk
  have HL := Lib.hid hl
  have HC := Lib.hid hc
  have HR1 : Hid (caR (zN (lensW (wt1 ts))) = true) := by
    obtain ⟨x, hx, h0⟩ := wt1_end ts
    exact lensW_caR (by rw [wt1_len]; omega) hx h0
  have HR2 : Hid (caR (zN (lensW (wt2 ts))) = true) := by
    obtain ⟨s, x, hx, h0⟩ := wt2_some ts hk
    exact lensW_caR (by rw [wt2_len]; omega) hx h0
  have HTL1 := Lib.hid (tab_few (ws := wt1 ts) (by rw [wt1_len]; omega) (by obtain ⟨x, h1, h2⟩ := wt1_end ts; exact ⟨256, x, h1, h2⟩))
  have HTL2 := Lib.hid (tab_few (ws := wt2 ts) (by rw [wt2_len]; omega) (wt2_some ts hk))
  have HO1 : Hid (∀ x ∈ wt1 ts, x ≤ 1073741824) := fun x hx => by
    have h1 := incW_le 273 _ x hx
    rw [List.length_append, fsts, List.length_map, HL.out] at h1
    simp at h1
    omega
  have HO2 : Hid (∀ x ∈ wt2 ts, x ≤ 1073741824) := fun x hx => by
    have h1 := incW_le 30 _ x hx
    have h2 := mts_len ts
    split at h1
    · simp at h1; omega
    · have := HL.out; omega
  have HE1 : Hid (∃ x : Nat, (wt1 ts)[256]? = some x ∧ 0 < x) := wt1_end ts
  have HH1 : Hid (∀ t ∈ ts, ∃ x, (wt1 ts)[(cls1 t).1]? = some x ∧ 0 < x) := fun t ht => wt1_has ht (hk t ht)
  have HH2 : Hid (∀ t ∈ ts, isM t = true → ∃ x, (wt2 ts)[(cls2 t).1]? = some x ∧ 0 < x) := fun t ht hm => wt2_has ht (hk t ht) hm
  have HBLK : Hid (blkB ts = (tabP (lensW (wt1 ts)) ++ tabP (lensW (wt2 ts))) ++ toksB (zN (lensW (wt1 ts))) (zN (lensW (wt2 ts))) ts ++ symB (zN (lensW (wt1 ts))) 256) := rfl
  have W1L : Hid ((wt1 ts).length = 273) := wt1_len ts
  have W2L : Hid ((wt2 ts).length = 30) := wt2_len ts
  have HTOK : Hid (∀ k, (toksB (zN (lensW (wt1 ts))) (zN (lensW (wt2 ts))) (ts.take k)).length ≤ 3700000) := fun k => by
    have h := toksB_len HR1.out HR2.out (ts := ts.take k) (fun t ht => hk t (List.mem_of_mem_take ht))
    rw [List.length_take] at h
    omega
  obtain ⟨u1, hu1⟩ : ∃ u1, wt1 ts = u1 := ⟨_, rfl⟩
  obtain ⟨u2, hu2⟩ : ∃ u2, wt2 ts = u2 := ⟨_, rfl⟩
  rw [hu1, hu2] at HWT HBLK HTOK
  rw [hu1] at HR1 HTL1 HO1 HE1 HH1 W1L
  rw [hu2] at HR2 HTL2 HO2 HH2 W2L
  have HM4L : Hid ((tabP (lensW u1) ++ tabP (lensW u2)).length ≤ 200000) := by have := HTL1.out; have := HTL2.out; show _ ≤ _; rw [List.length_append]; omega
  obtain ⟨z1, hz1⟩ : ∃ z1, zN (lensW u1) = z1 := ⟨_, rfl⟩
  obtain ⟨z2, hz2⟩ : ∃ z2, zN (lensW u2) = z2 := ⟨_, rfl⟩
  obtain ⟨M4, hM4⟩ : ∃ M4, tabP (lensW u1) ++ tabP (lensW u2) = M4 := ⟨_, rfl⟩
  rw [hz1] at HR1
  rw [hz2] at HR2
  rw [hz1, hz2] at HTOK
  rw [hM4] at HM4L
  rw [hz1, hz2, hM4] at HBLK
  have HZ1 := Lib.hid hz1
  have HZ2 := Lib.hid hz2
  have HM4 := Lib.hid hM4
  rw [HBLK.out]
  clear hk hc hl hu1 hu2 HBLK hz1 hz2 hM4
  go_enter Tryz.func11, Tryz.ntmps11
  go_wp2_with fail
  refine HWT.out.mono ?_
  rintro e w2 ⟨hb2, g1, g2, rfl, hn1, hn2, hg1, hg2⟩
  have HB2 := Lib.hid hb2
  have HLN1 := Lib.hid (refLen_ok (some ⟨g1, 0, none⟩) 273 273 u1 w2.heap.size w2 W1L.out (by omega) (NB.cellsN hn1) (Nat.le_refl _) HO1.out)
  have HLN2 : Hid (∀ W, Below w2.heap.size w2 W → _) := fun W hW => refLen_ok (some ⟨g2, 0, none⟩) 30 30 u2 W.heap.size W W2L.out (by omega) (NB.cellsN (hn2.below hW hn2.lt)) (Nat.le_refl _) HO2.out
  have HV1 : Hid (∀ W g, NB W g (lensW u1) → Calls Tryz.prog 30 #[.slice (some ⟨g, 0, none⟩) 273 273] W fun e w' => e = .returned (.slice (some ⟨W.heap.size, 0, none⟩) 273 273) ∧ IntBlock w' W.heap.size (caV (zN (lensW u1))) ∧ Below W.heap.size W w') := fun W g hW =>
    ref8Values_any (some ⟨g, 0, none⟩) 273 273 (zN (lensW u1)) W.heap.size W (by rw [zN_len, lensW_len]; exact W1L.out) (by omega) (by have h := hW.cellsN; rw [zN_cs] at h; exact h) (Nat.le_refl _)
  have HV2 : Hid (∀ W g, NB W g (lensW u2) → Calls Tryz.prog 30 #[.slice (some ⟨g, 0, none⟩) 30 30] W fun e w' => e = .returned (.slice (some ⟨W.heap.size, 0, none⟩) 30 30) ∧ IntBlock w' W.heap.size (caV (zN (lensW u2))) ∧ Below W.heap.size W w') := fun W g hW =>
    ref8Values_any (some ⟨g, 0, none⟩) 30 30 (zN (lensW u2)) W.heap.size W (by rw [zN_len, lensW_len]; exact W2L.out) (by omega) (by have h := hW.cellsN; rw [zN_cs] at h; exact h) (Nat.le_refl _)
  clear hb2 hn1 hn2 HWT
  go_wp2_with (first
    | (go_at_call 29; refine HLN1.out.mono ?_; rintro e w3 ⟨rfl, hn3, hb3⟩; clear HLN1; have HN3 := Lib.hid hn3; have HB3 := Lib.hid hb3; clear hn3 hb3)
    | (go_at_call 29; refine (HLN2.out w3 HB3.out).mono ?_; rintro e w4 ⟨rfl, hn4, hb4⟩; clear HLN2; have HN4 := Lib.hid hn4; have HB4 := Lib.hid hb4; have HN34 := Lib.hid (HN3.out.below hb4 HN3.out.lt); clear hn4 hb4)
    | (go_at_call 30; refine (HV1.out w4 _ HN34.out).mono ?_; rintro e w5 ⟨rfl, hi5, hb5⟩; clear HV1; have HI5 := Lib.hid hi5; have HB5 := Lib.hid hb5; have HN45 := Lib.hid (HN4.out.below hb5 HN4.out.lt); have HN35 := Lib.hid (HN34.out.below hb5 HN34.out.lt); clear hi5 hb5)
    | (go_at_call 30; refine (HV2.out w5 _ HN45.out).mono ?_; rintro e w6 ⟨rfl, hi6, hb6⟩; clear HV2; have HI6 := Lib.hid hi6; have HB6 := Lib.hid hb6; have HF6 := Lib.hid (And.intro (HN35.out.below hb6 HN35.out.lt) (And.intro (HN45.out.below hb6 HN45.out.lt) (And.intro (IntBlock.below13 HI5.out hb6 (ib_lt HI5.out)) hi6))); clear hi6 hb6; have HWB : Hid (Below w.heap.size w w6) := ((((HB2.out.trans (HB3.out.mono HB2.out.size)).trans (HB4.out.mono (Nat.le_trans HB2.out.size HB3.out.size))).trans (HB5.out.mono (Nat.le_trans (Nat.le_trans HB2.out.size HB3.out.size) HB4.out.size))).trans (HB6.out.mono (Nat.le_trans (Nat.le_trans (Nat.le_trans HB2.out.size HB3.out.size) HB4.out.size) HB5.out.size))); have HP1 := Lib.hid (rput9_any (some ⟨w2.heap.size, 0, none⟩) 273 273 (lensW u1) w6 (by rw [lensW_len]; exact W1L.out) (by omega) (by omega) (lensW_le (by rw [W1L.out]; omega)) (NB.cellsN HF6.out.1)); have HP2 : Hid (∀ W, Below w6.heap.size w6 W → _) := (fun W hW => rput9_any (some ⟨w3.heap.size, 0, none⟩) 30 30 (lensW u2) W (by rw [lensW_len]; exact W2L.out) (by omega) (by omega) (lensW_le (by rw [W2L.out]; omega)) (NB.cellsN (HF6.out.2.1.below hW HF6.out.2.1.lt))))
    | (go_at_call 31; refine HP1.out.mono ?_; rintro e w7 ⟨A7, c7, rfl, ho7, hb7⟩; clear HP1; have HO7 := Lib.hid ho7; have HB7 := Lib.hid hb7; clear ho7 hb7)
    | (go_at_call 31; refine (HP2.out w7 HB7.out).mono ?_; rintro e w8 ⟨A8, c8, rfl, ho8, hb8⟩; clear HP2; have HO8 := Lib.hid (Cells.of_own ho8); have HO78 := Lib.hid (own_keep HO7.out (Mod.of_below hb8) (fun _ _ h => h)); have HB8 := Lib.hid (HB7.out.trans (hb8.mono HB7.out.size)); clear ho8 hb8)
    | (at_builtin; have htl1 := HTL1.out; have htl2 := HTL2.out; refine wpList_app w8 byteElem3 rfl (.tmp 28) (.tmp 30) rfl w6.heap.size (.slice A7 (tabP (lensW u1)).length c7) (tabP (lensW u1)).length (byteCells (bitBytes (tabP (lensW u1)))) rfl HO78.out w8.heap.size A8 (tabP (lensW u2)).length c8 (byteCells (bitBytes (tabP (lensW u2)))) rfl (by rw [byteCells_length, bitBytes_length, Nat.mul_one]) HO8.out (byteCells_one _) (by unfold maxLen; omega) (by omega) HB8.out.size ?_; clear htl1 htl2; intro A9 c9 w9 hA9; have HA9 := Lib.hid hA9; clear hA9))
  obtain ⟨m0, hm0⟩ : ∃ m0, (tabP (lensW u1)).length + (tabP (lensW u2)).length = m0 := ⟨_, rfl⟩
  have HM0 : Hid ((M4 ++ toksB z1 z2 (ts.take 0)).length = m0) := by
    show _ = _
    rw [show M4 ++ toksB z1 z2 (ts.take 0) = M4 by simp [toksB], ← HM4.out, List.length_append, hm0]
  have HROW0 : Hid (OwnB w9 w6.heap.size 5 (.slice A9 m0 c9) m0 (bitBytes (M4 ++ toksB z1 z2 (ts.take 0)))) := by
    show OwnB _ _ _ _ _ _
    have h := HA9.out.own
    rw [← byteCells_append, ← bitBytes_append, hm0, HM4.out] at h
    rw [show M4 ++ toksB z1 z2 (ts.take 0) = M4 by simp [toksB]]
    exact h
  have HB9 : Hid (Below w6.heap.size w6 w9) := HA9.out.below HB8.out HB8.out.size (own_base HO78.out)
  rw [hm0]
  obtain ⟨gl1, hgl1⟩ : ∃ g, w2.heap.size = g := ⟨_, rfl⟩
  obtain ⟨gl2, hgl2⟩ : ∃ g, w3.heap.size = g := ⟨_, rfl⟩
  obtain ⟨gv1, hgv1⟩ : ∃ g, w4.heap.size = g := ⟨_, rfl⟩
  obtain ⟨gv2, hgv2⟩ : ∃ g, w5.heap.size = g := ⟨_, rfl⟩
  have HBT1 : Hid (∀ (W : World) (q : Nat × Nat × Nat) (x : Nat), Below w6.heap.size w6 W → u1[q.1]? = some x → 0 < x → q.2.1 ≤ 13 → q.2.2 < 2 ^ q.2.1 → _) := fun W q x hW hx h0 h2 h3 => rbits13_any w2.heap.size w4.heap.size 273 u1 q W W1L.out (by omega) hx h0 (HF6.out.1.below hW HF6.out.1.lt) (IntBlock.below13 HF6.out.2.2.1 hW (ib_lt HF6.out.2.2.1)) h2 h3
  have HBT2 : Hid (∀ (W : World) (q : Nat × Nat × Nat) (x : Nat), Below w6.heap.size w6 W → u2[q.1]? = some x → 0 < x → q.2.1 ≤ 13 → q.2.2 < 2 ^ q.2.1 → _) := fun W q x hW hx h0 h2 h3 => rbits13_any w3.heap.size w5.heap.size 30 u2 q W W2L.out (by omega) hx h0 (HF6.out.2.1.below hW HF6.out.2.1.lt) (IntBlock.below13 HF6.out.2.2.2 hW (ib_lt HF6.out.2.2.2)) h2 h3
  rw [HZ1.out, hgl1, hgv1] at HBT1
  rw [HZ2.out, hgl2, hgv2] at HBT2
  rw [hgl1, hgl2, hgv1, hgv2]
  clear hm0 hgl1 hgl2 hgv1 hgv2 HA9 HO78 HO8 HO7 HB8 HB7 HN34 HN45 HN35 HN3 HN4 HI5 HI6 HB2 HB3 HB4 HB5 HB6 HF6
  go_wp2
  go_loopg [9, 10] l (fun gk v i wr => ∃ k : Nat, k + gk = l ∧ i = .int .i64 (k : Int) ∧ OwnB wr w6.heap.size 5 v (M4 ++ toksB z1 z2 (ts.take k)).length (bitBytes (M4 ++ toksB z1 z2 (ts.take k))) ∧ Below w6.heap.size w6 wr)
  case atStart => exact ⟨0, by omega, rfl, by rw [HM0.out]; exact HROW0.out, HB9.out⟩
  case round =>
    obtain ⟨k, hkg, rfl, hrow, hbel⟩ := hrel
    obtain ⟨A3, c3, rfl⟩ := own_form hrow
    have HBEL := Lib.hid hbel
    have htb := HTOK.out k
    have hm4 := HM4L.out
    obtain ⟨M3, hM3⟩ : ∃ M3, M4 ++ toksB z1 z2 (ts.take k) = M3 := ⟨_, rfl⟩
    have hlen : M3.length ≤ 4000000 := by rw [← hM3, List.length_append]; omega
    rw [hM3] at hrow
    rw [hM3]
    obtain ⟨m3, hm3⟩ : ∃ m3, M3.length = m3 := ⟨_, rfl⟩
    have HM3L := Lib.hid hm3
    rw [hm3] at hrow hlen
    rw [hm3]
    have HROW := Lib.hid hrow
    have HM3 := Lib.hid hM3
    clear hrow hbel htb hm4 HROW0 HB9 hm3 hM3
    by_cases hkl : k < l
    · obtain ⟨t, ht⟩ : ∃ t, ts[k]? = some t := ⟨_, List.getElem?_eq_getElem (by rw [HL.out]; exact hkl)⟩
      have hin := List.mem_of_getElem? ht
      have hok := HK.out t hin
      have HSP := Lib.hid (fun W => rsplitT_any t W hok)
      have hc1 := cls1_lt hok
      have hc2 := cls2_lt hok
      have HX1 := Lib.hid (HH1.out t hin)
      have HX2 := Lib.hid (HH2.out t hin)
      have HTO : Hid (M4 ++ toksB z1 z2 (ts.take (k + 1)) = M3 ++ (clsB z1 (cls1 t) ++ (if isM t then clsB z2 (cls2 t) else []))) := by
        show _ = _
        rw [← HM3.out, List.append_assoc]
        congr 1
        rw [List.take_add_one, ht]
        exact toksB_snoc z1 z2 (ts.take k) t
      obtain ⟨b, o, rfl, hbB, v0, v1, v2⟩ := ((HC.out k t ht).below HWB.out).below HBEL.out
      obtain ⟨⟨n1, b1, x1⟩, hq1⟩ : ∃ q, cls1 t = q := ⟨_, rfl⟩
      obtain ⟨⟨n2, b2, x2⟩, hq2⟩ : ∃ q, cls2 t = q := ⟨_, rfl⟩
      rw [hq1] at HSP HTO hc1 HX1
      rw [hq2] at HSP HTO hc2 HX2
      obtain ⟨m, hmm⟩ : ∃ m, isM t = m := ⟨_, rfl⟩
      rw [hmm] at HSP HTO HX2
      dsimp only at HSP hc1 hc2 HX1 HX2
      have hcl1 := clsB_len HR1.out (c := (n1, b1, x1)) hc1.2.1
      have hcl2 := clsB_len HR2.out (c := (n2, b2, x2)) hc2.2.1
      clear ht hin hok hq1 hq2 hmm hbB
      cases m with
      | true =>
        obtain ⟨y1, hy1, hp1⟩ := HX1.out
        obtain ⟨y2, hy2, hp2⟩ := HX2.out rfl
        have HBB2 : Hid (∀ W, Below w6.heap.size w6 W → _) := fun W hW => HBT2.out W (n2, b2, x2) y2 hW hy2 hp2 hc2.2.1 hc2.2.2
        obtain ⟨Q2, hQ2⟩ : ∃ Q2, clsB z2 (n2, b2, x2) = Q2 := ⟨_, rfl⟩
        rw [hQ2] at HTO HBB2 hcl2
        dsimp only at HBB2
        clear hy2 hp2 hQ2
        have HLF : Hid ((M4 ++ toksB z1 z2 (ts.take (k + 1))).length = m3 + (clsB z1 (n1, b1, x1)).length + Q2.length) := by show _ = _; rw [HTO.out]; simp only [if_true, List.length_append]; rw [HM3L.out]; omega
        have HBF : Hid (byteCells (bitBytes (M4 ++ toksB z1 z2 (ts.take (k + 1)))) = byteCells (bitBytes M3) ++ (byteCells (bitBytes (clsB z1 (n1, b1, x1))) ++ byteCells (bitBytes Q2))) := by show _ = _; rw [HTO.out]; simp only [if_true, bitBytes_append, byteCells_append]
        have HBB1 : Hid (∀ W, Below w6.heap.size w6 W → _) := fun W hW => HBT1.out W (n1, b1, x1) y1 hW hy1 hp1 hc1.2.1 hc1.2.2
        obtain ⟨Q1, hQ1⟩ : ∃ Q1, clsB z1 (n1, b1, x1) = Q1 := ⟨_, rfl⟩
        rw [hQ1] at HLF HBF HBB1 hcl1
        dsimp only at HBB1
        clear hy1 hp1 hQ1
        go_upto_region 9 with (go_at_call 32; refine (HSP.out _).mono ?_; rintro e w4 ⟨rfl, hb4⟩; unfold agC; obtain ⟨W5, hW5⟩ : ∃ W5, (w4.alloc (.cells #[.int .i64 (n1 : Int), .int .i64 (b1 : Int), .int .u32 (x1 : Int)] 71)).alloc (.cells #[.int .i64 (n2 : Int), .int .i64 (b2 : Int), .int .u32 (x2 : Int)] 71) = W5 := ⟨_, rfl⟩; have hb6 : Below wr.heap.size wr W5 := (by rw [← hW5]; exact (hb4.alloc hb4.size _).alloc (by have := hb4.size; simp; omega) _); have hx5 : W5.heap[w4.heap.size]? = some (.cells #[.int .i64 (n1 : Int), .int .i64 (b1 : Int), .int .u32 (x1 : Int)] 71 (0, 0)) := (by rw [← hW5]; exact (Below.heap_alloc _ _ _ (by simp)).trans (heap_alloc_new w4 _)); have hy5 : W5.heap[w4.heap.size + 1]? = some (.cells #[.int .i64 (n2 : Int), .int .i64 (b2 : Int), .int .u32 (x2 : Int)] 71 (0, 0)) := (by rw [← hW5]; have h := heap_alloc_new (w4.alloc (.cells #[.int .i64 (n1 : Int), .int .i64 (b1 : Int), .int .u32 (x1 : Int)] 71)) (.cells #[.int .i64 (n2 : Int), .int .i64 (b2 : Int), .int .u32 (x2 : Int)] 71); rw [World.size_alloc] at h; exact h); have hs4 : wr.heap.size ≤ w4.heap.size := hb4.size; have HW5 := Lib.hid hW5; clear hW5 hb4)
        rw [HW5.out]
        have HB5 := Lib.hid (HBEL.out.trans (hb6.mono HBEL.out.size))
        have HROW5 := Lib.hid (own_keep HROW.out (Mod.of_below hb6) (fun _ _ h => h))
        have HY5 := Lib.hid hy5
        have r0 : W5.cell? ⟨w4.heap.size, 0, none⟩ = some (.int .i64 (n1 : Int)) := cell_of_row _ _ 0 _ _ _ hx5
        have r1 : W5.cell? ⟨w4.heap.size, 1, none⟩ = some (.int .i64 (b1 : Int)) := cell_of_row _ _ 1 _ _ _ hx5
        have r2 : W5.cell? ⟨w4.heap.size, 2, none⟩ = some (.int .u32 (x1 : Int)) := cell_of_row _ _ 2 _ _ _ hx5
        have HLT : Hid (∀ j, ownS (.slice A3 m3 c3) j → j < wr.heap.size) := fun j hj => (HROW.out.lt j hj).2
        clear hb6 hx5 hy5 HW5
        go_wp2_with (first
          | (go_at_call 33; refine (HBB1.out W5 HB5.out).mono ?_; rintro e w7 ⟨A7, c7, rfl, ho7, hb7⟩; clear HBB1; have HO7 := Lib.hid (Cells.of_own ho7); have HROW7 := Lib.hid (own_keep HROW5.out (Mod.of_below hb7) (fun _ _ h => h)); have HB7 := Lib.hid (HB5.out.trans (hb7.mono HB5.out.size)); have HY7 := Lib.hid ((hb7.block _ (Array.getElem?_eq_some_iff.1 HY5.out).1).trans HY5.out); clear ho7 hb7)
          | (at_builtin; refine wpList_app w7 byteElem3 rfl (.tmp 47) (.tmp 51) rfl w6.heap.size (.slice A3 m3 c3) m3 (byteCells (bitBytes M3)) rfl HROW7.out w7.heap.size A7 Q1.length c7 (byteCells (bitBytes Q1)) rfl (by rw [byteCells_length, bitBytes_length, Nat.mul_one]) HO7.out (byteCells_one _) (by unfold maxLen; omega) (by omega) HB7.out.size ?_; intro A8 c8 w8 hA; have HA := Lib.hid hA; have HB8 := Lib.hid (hA.below HB7.out HB7.out.size (own_base HROW7.out)); have hy8 := (Mod.of_app hA).keep HY7.out (fun h => by have := HLT.out _ h; omega); have r3 : w8.cell? ⟨w4.heap.size + 1, 0, none⟩ = some (.int .i64 (n2 : Int)) := cell_of_row _ _ 0 _ _ _ hy8; have r4 : w8.cell? ⟨w4.heap.size + 1, 1, none⟩ = some (.int .i64 (b2 : Int)) := cell_of_row _ _ 1 _ _ _ hy8; have r5 : w8.cell? ⟨w4.heap.size + 1, 2, none⟩ = some (.int .u32 (x2 : Int)) := cell_of_row _ _ 2 _ _ _ hy8; clear hA hy8)
          | (go_at_call 33; refine (HBB2.out w8 HB8.out).mono ?_; rintro e w9 ⟨A9, c9, rfl, ho9, hb9⟩; have HO9 := Lib.hid (Cells.of_own ho9); have HROW9 := Lib.hid (own_keep HA.out.own (Mod.of_below hb9) (fun _ _ h => h)); have HB9 := Lib.hid (HB8.out.trans (hb9.mono HB8.out.size)); clear ho9 hb9)
          | (at_builtin; refine wpList_app w9 byteElem3 rfl (.tmp 54) (.tmp 58) rfl w6.heap.size (.slice A8 (m3 + Q1.length) c8) (m3 + Q1.length) (byteCells (bitBytes M3) ++ byteCells (bitBytes Q1)) rfl HROW9.out w9.heap.size A9 Q2.length c9 (byteCells (bitBytes Q2)) rfl (by rw [byteCells_length, bitBytes_length, Nat.mul_one]) HO9.out (byteCells_one _) (by unfold maxLen; omega) (by omega) HB9.out.size ?_; intro A10 c10 w10 hA; have HA10 := Lib.hid hA; clear hA))
        go_roundg (gk - 1)
        case measure => omega
        case rel =>
          refine ⟨k + 1, by omega, by go_num, ?_, HA10.out.below HB9.out HB9.out.size (own_base HROW9.out)⟩
          have h := HA10.out.own
          rw [List.append_assoc] at h
          rw [HLF.out]
          unfold OwnB
          rw [HBF.out]
          exact h
      | false =>
        obtain ⟨y1, hy1, hp1⟩ := HX1.out
        have HLF : Hid ((M4 ++ toksB z1 z2 (ts.take (k + 1))).length = m3 + (clsB z1 (n1, b1, x1)).length) := by show _ = _; rw [HTO.out]; simp only [Bool.false_eq_true, if_false, List.append_nil, List.length_append]; rw [HM3L.out]
        have HBF : Hid (byteCells (bitBytes (M4 ++ toksB z1 z2 (ts.take (k + 1)))) = byteCells (bitBytes M3) ++ byteCells (bitBytes (clsB z1 (n1, b1, x1)))) := by show _ = _; rw [HTO.out]; simp only [Bool.false_eq_true, if_false, List.append_nil, bitBytes_append, byteCells_append]
        have HBB1 : Hid (∀ W, Below w6.heap.size w6 W → _) := fun W hW => HBT1.out W (n1, b1, x1) y1 hW hy1 hp1 hc1.2.1 hc1.2.2
        obtain ⟨Q1, hQ1⟩ : ∃ Q1, clsB z1 (n1, b1, x1) = Q1 := ⟨_, rfl⟩
        rw [hQ1] at HLF HBF HBB1 hcl1
        dsimp only at HBB1
        clear hy1 hp1 hQ1
        go_upto_region 9 with (go_at_call 32; refine (HSP.out _).mono ?_; rintro e w4 ⟨rfl, hb4⟩; unfold agC; obtain ⟨W5, hW5⟩ : ∃ W5, (w4.alloc (.cells #[.int .i64 (n1 : Int), .int .i64 (b1 : Int), .int .u32 (x1 : Int)] 71)).alloc (.cells #[.int .i64 (n2 : Int), .int .i64 (b2 : Int), .int .u32 (x2 : Int)] 71) = W5 := ⟨_, rfl⟩; have hb6 : Below wr.heap.size wr W5 := (by rw [← hW5]; exact (hb4.alloc hb4.size _).alloc (by have := hb4.size; simp; omega) _); have hx5 : W5.heap[w4.heap.size]? = some (.cells #[.int .i64 (n1 : Int), .int .i64 (b1 : Int), .int .u32 (x1 : Int)] 71 (0, 0)) := (by rw [← hW5]; exact (Below.heap_alloc _ _ _ (by simp)).trans (heap_alloc_new w4 _)); have hy5 : W5.heap[w4.heap.size + 1]? = some (.cells #[.int .i64 (n2 : Int), .int .i64 (b2 : Int), .int .u32 (x2 : Int)] 71 (0, 0)) := (by rw [← hW5]; have h := heap_alloc_new (w4.alloc (.cells #[.int .i64 (n1 : Int), .int .i64 (b1 : Int), .int .u32 (x1 : Int)] 71)) (.cells #[.int .i64 (n2 : Int), .int .i64 (b2 : Int), .int .u32 (x2 : Int)] 71); rw [World.size_alloc] at h; exact h); have hs4 : wr.heap.size ≤ w4.heap.size := hb4.size; have HW5 := Lib.hid hW5; clear hW5 hb4)
        rw [HW5.out]
        have HB5 := Lib.hid (HBEL.out.trans (hb6.mono HBEL.out.size))
        have HROW5 := Lib.hid (own_keep HROW.out (Mod.of_below hb6) (fun _ _ h => h))
        have HY5 := Lib.hid hy5
        have r0 : W5.cell? ⟨w4.heap.size, 0, none⟩ = some (.int .i64 (n1 : Int)) := cell_of_row _ _ 0 _ _ _ hx5
        have r1 : W5.cell? ⟨w4.heap.size, 1, none⟩ = some (.int .i64 (b1 : Int)) := cell_of_row _ _ 1 _ _ _ hx5
        have r2 : W5.cell? ⟨w4.heap.size, 2, none⟩ = some (.int .u32 (x1 : Int)) := cell_of_row _ _ 2 _ _ _ hx5
        have HLT : Hid (∀ j, ownS (.slice A3 m3 c3) j → j < wr.heap.size) := fun j hj => (HROW.out.lt j hj).2
        clear hb6 hx5 hy5 HW5
        go_wp2_with (first
          | (go_at_call 33; refine (HBB1.out W5 HB5.out).mono ?_; rintro e w7 ⟨A7, c7, rfl, ho7, hb7⟩; clear HBB1; have HO7 := Lib.hid (Cells.of_own ho7); have HROW7 := Lib.hid (own_keep HROW5.out (Mod.of_below hb7) (fun _ _ h => h)); have HB7 := Lib.hid (HB5.out.trans (hb7.mono HB5.out.size)); have HY7 := Lib.hid ((hb7.block _ (Array.getElem?_eq_some_iff.1 HY5.out).1).trans HY5.out); clear ho7 hb7)
          | (at_builtin; refine wpList_app w7 byteElem3 rfl (.tmp 47) (.tmp 51) rfl w6.heap.size (.slice A3 m3 c3) m3 (byteCells (bitBytes M3)) rfl HROW7.out w7.heap.size A7 Q1.length c7 (byteCells (bitBytes Q1)) rfl (by rw [byteCells_length, bitBytes_length, Nat.mul_one]) HO7.out (byteCells_one _) (by unfold maxLen; omega) (by omega) HB7.out.size ?_; intro A8 c8 w8 hA; have HA := Lib.hid hA; have HB8 := Lib.hid (hA.below HB7.out HB7.out.size (own_base HROW7.out)); have hy8 := (Mod.of_app hA).keep HY7.out (fun h => by have := HLT.out _ h; omega); have r3 : w8.cell? ⟨w4.heap.size + 1, 0, none⟩ = some (.int .i64 (n2 : Int)) := cell_of_row _ _ 0 _ _ _ hy8; have r4 : w8.cell? ⟨w4.heap.size + 1, 1, none⟩ = some (.int .i64 (b2 : Int)) := cell_of_row _ _ 1 _ _ _ hy8; have r5 : w8.cell? ⟨w4.heap.size + 1, 2, none⟩ = some (.int .u32 (x2 : Int)) := cell_of_row _ _ 2 _ _ _ hy8; clear hA hy8))
        go_roundg (gk - 1)
        case measure => omega
        case rel =>
          refine ⟨k + 1, by omega, by go_num, ?_, HB8.out⟩
          have h := HA.out.own
          rw [HLF.out]
          unfold OwnB
          rw [HBF.out]
          exact h
    · obtain rfl : k = l := by omega
      rw [show ts.take k = ts from List.take_of_length_le (by rw [HL.out]; exact Nat.le_refl _)] at HM3
      obtain ⟨x, hx, h0⟩ := HE1.out
      have h9 := HBT1.out wr (256, 0, 0) x HBEL.out hx h0 (by decide) (by decide)
      have hcl := clsB_len HR1.out (c := (256, 0, 0)) (by decide)
      have HSY : Hid (clsB z1 (256, 0, 0) = symB z1 256) := by show _ = _; unfold clsB; simp [bitsOf]
      have HFIN : Hid (M4 ++ toksB z1 z2 ts ++ symB z1 256 = M3 ++ clsB z1 (256, 0, 0)) := by show _ = _; rw [HSY.out, HM3.out]
      obtain ⟨M5, hM5⟩ : ∃ M5, clsB z1 (256, 0, 0) = M5 := ⟨_, rfl⟩
      rw [hM5] at h9 HFIN hcl
      have HR9 : Hid (Calls Tryz.prog 33 #[.slice (some ⟨gl1, 0, none⟩) 273 273, .slice (some ⟨gv1, 0, none⟩) 273 273, .agg #[.int .i64 256, .int .i64 0, .int .u32 0]] wr _) := h9
      have HM3L' := HM3L.out
      have HLF : Hid ((M4 ++ toksB z1 z2 ts ++ symB z1 256).length = m3 + M5.length) := by show _ = _; rw [HFIN.out, List.length_append, HM3L.out]
      have HBF : Hid (byteCells (bitBytes (M4 ++ toksB z1 z2 ts ++ symB z1 256)) = byteCells (bitBytes M3) ++ byteCells (bitBytes M5)) := by show _ = _; rw [HFIN.out, bitBytes_append, byteCells_append]
      clear hx h0 h9 hM5 HM3L'
      go_wp2_with (first
        | (go_at_call 33; refine HR9.out.mono ?_; rintro e w7 ⟨A7, c7, rfl, ho7, hb7⟩; have HO7 := Lib.hid (Cells.of_own ho7); have HROW7 := Lib.hid (own_keep HROW.out (Mod.of_below hb7) (fun _ _ h => h)); have HB7 := Lib.hid (HBEL.out.trans (hb7.mono HBEL.out.size)); clear ho7 hb7)
        | (at_builtin; refine wpList_app w7 byteElem3 rfl (.tmp 60) (.tmp 64) rfl w6.heap.size (.slice A3 m3 c3) m3 (byteCells (bitBytes M3)) rfl HROW7.out w7.heap.size A7 M5.length c7 (byteCells (bitBytes M5)) rfl (by rw [byteCells_length, bitBytes_length, Nat.mul_one]) HO7.out (byteCells_one _) (by unfold maxLen; omega) (by omega) HB7.out.size ?_; intro A8 c8 w8 hA; have HA := Lib.hid hA; clear hA))
      go_ret
      refine ⟨A8, c8, by rw [HLF.out]; rfl, ?_, HWB.out.trans ((HA.out.below HB7.out HB7.out.size (own_base HROW7.out)).mono HWB.out.size)⟩
      rw [HLF.out]
      unfold OwnB
      rw [HBF.out]
      exact own_leP HA.out.own HWB.out.size
end Go.Proofs.YtgbbdgoleiolhaaGreat
