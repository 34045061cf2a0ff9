/- Layer 9: the bits of a table: the law. -/
import Derived.Test.YtbpgaaecifnohaaMgRunsPuts43
import Derived.Test.YtbpgaaecifnohaaMgRunsPuts26
import Derived.Deep.RegionLaw
namespace Go.Proofs.Ytbpgaaecifnohaa
open Go.RowKit BitsP
attribute [local go_sem ↓] Go.wp_at_zero Go.wp_at_succ

theorem below_drewQ {B : Nat} {a w : World} (h : Below B a w) (n : Nat) : Below B a (w.drewN n) := ⟨h.os, h.tape, h.output, h.size, h.block⟩
set_option maxRecDepth 100000 in
set_option maxHeartbeats 1000000 in
theorem rnputs_size (A : Option Addr) (l c : Nat) (w : World) (h : l = 0 ∨ 320 < l) (h4 : l ≤ 400) :
    Calls Try.prog 3 #[.slice A l c] w fun e w' => e = .returned (.bool true) ∧ Below w.heap.size w w' := by
  have HLV := Lib.hid lives9_any
  have HB1 : Hid (Below w.heap.size w (w.alloc (.cells zeroWr 27))) := (Below.refl _ w).alloc (Nat.le_refl _) _
  have HW1 : Hid (WrS (w.alloc (.cells zeroWr 27)) w.heap.size w.heap.size (oneB w.heap.size) []) := WrS.zero _ (heap_alloc_new w _)
  have HWL : Hid (∀ W, Below (w.alloc (.cells zeroWr 27)).heap.size (w.alloc (.cells zeroWr 27)) W → Calls Try.prog 8 #[.pointer (some ⟨w.heap.size, 0, none⟩)] W fun e w' => e = .returned (.int .i64 0) ∧ ∃ n, w' = W.drewN n) := fun W hW =>
    wlen_any w.heap.size w.heap.size (oneB w.heap.size) [] W (HW1.out.keep (Mod.of_below hW) (fun _ _ h => h)) (by simp)
  have HP := Lib.hid (rnput_size A l c (some ⟨w.heap.size, 0, none⟩) (w.alloc (.cells zeroWr 27)) h (by omega))
  rcases h with h | h
  · subst h
    go_enter Try.func3, Try.ntmps3
    go_wp2_with (first
      | (go_at_call 7; refine HP.out.mono ?_; rintro e w2 ⟨rfl, hb2⟩; have HB2 := Lib.hid hb2; clear hb2)
      | (go_at_call 8; refine (HWL.out _ HB2.out).mono ?_; rintro e w3 ⟨rfl, n3, rfl⟩)
      | (go_at_call 6; refine (HLV.out _).mono ?_; rintro e w4 ⟨rfl, hb4⟩; have HB4 := Lib.hid hb4; clear hb4))
    go_ret
    have hs := HB2.out.size
    simp only [World.size_alloc] at hs
    exact ⟨rfl, (below_drewQ (HB1.out.trans (HB2.out.mono (by simp))) n3).trans (HB4.out.mono (by show w.heap.size ≤ w2.heap.size; omega))⟩
  · have t1 : decide ((320 : Int) < (l : Int)) = true := decide_eq_true (by omega)
    have t2 : decide ((l : Int) < 1) = false := decide_eq_false (by omega)
    go_enter Try.func3, Try.ntmps3
    go_wp2_with (first
      | (go_at_call 7; refine HP.out.mono ?_; rintro e w2 ⟨rfl, hb2⟩; have HB2 := Lib.hid hb2; clear hb2)
      | (go_at_call 8; refine (HWL.out _ HB2.out).mono ?_; rintro e w3 ⟨rfl, n3, rfl⟩)
      | (go_at_call 6; refine (HLV.out _).mono ?_; rintro e w4 ⟨rfl, hb4⟩; have HB4 := Lib.hid hb4; clear hb4))
    go_ret
    have hs := HB2.out.size
    simp only [World.size_alloc] at hs
    exact ⟨rfl, (below_drewQ (HB1.out.trans (HB2.out.mono (by simp))) n3).trans (HB4.out.mono (by show w.heap.size ≤ w2.heap.size; omega))⟩
set_option maxRecDepth 100000 in
set_option maxHeartbeats 1000000 in
theorem rnputs_bad (A : Option Addr) (l c : Nat) (zs : List Int) (w : World) (hl : zs.length = l) (h1 : 1 ≤ l) (hm : l ≤ 320) (hb : Cells w w.heap.size A (zs.map ic)) (hr : zs.all lenB = false) :
    Calls Try.prog 3 #[.slice A l c] w fun e w' => e = .returned (.bool true) ∧ Below w.heap.size w w' := by
  have HLV := Lib.hid lives9_any
  have HB1 : Hid (Below w.heap.size w (w.alloc (.cells zeroWr 27))) := (Below.refl _ w).alloc (Nat.le_refl _) _
  have HW1 : Hid (WrS (w.alloc (.cells zeroWr 27)) w.heap.size w.heap.size (oneB w.heap.size) []) := WrS.zero _ (heap_alloc_new w _)
  have HWL : Hid (∀ W, Below (w.alloc (.cells zeroWr 27)).heap.size (w.alloc (.cells zeroWr 27)) W → Calls Try.prog 8 #[.pointer (some ⟨w.heap.size, 0, none⟩)] W fun e w' => e = .returned (.int .i64 0) ∧ ∃ n, w' = W.drewN n) := fun W hW =>
    wlen_any w.heap.size w.heap.size (oneB w.heap.size) [] W (HW1.out.keep (Mod.of_below hW) (fun _ _ h => h)) (by simp)
  have HP := Lib.hid (rnput_bad A l c zs (some ⟨w.heap.size, 0, none⟩) (w.alloc (.cells zeroWr 27)) hl h1 hm (hb.alloc (Nat.le_refl _) _ |>.more (by simp)) hr)
  have HR : Hid (∀ W, Below (w.alloc (.cells zeroWr 27)).heap.size (w.alloc (.cells zeroWr 27)) W → _) := fun W hW =>
    ref7Right_any A l c zs w.heap.size W hl (by omega) (hb.below (HB1.out.trans (hW.mono (by simp))) (Nat.le_refl _))
  rw [show r7B zs = false by rw [r7B, hr, Bool.and_false]] at HR
  have t1 : decide ((320 : Int) < (l : Int)) = false := decide_eq_false (by omega)
  have t2 : decide ((l : Int) < 1) = false := decide_eq_false (by omega)
  clear hb hl hr h1
  · skip
    go_enter Try.func3, Try.ntmps3
    go_wp2_with (first
      | (go_at_call 7; refine HP.out.mono ?_; rintro e w2 ⟨rfl, hb2⟩; have HB2 := Lib.hid hb2; clear hb2)
      | (go_at_call 9; refine (HR.out _ HB2.out).mono ?_; rintro e w' ⟨rfl, rfl⟩)
      | (go_at_call 8; refine (HWL.out _ HB2.out).mono ?_; rintro e w3 ⟨rfl, n3, rfl⟩)
      | (go_at_call 6; refine (HLV.out _).mono ?_; rintro e w4 ⟨rfl, hb4⟩; have HB4 := Lib.hid hb4; clear hb4))
    go_ret
    have hs := HB2.out.size
    simp only [World.size_alloc] at hs
    exact ⟨rfl, (below_drewQ (HB1.out.trans (HB2.out.mono (by simp))) n3).trans (HB4.out.mono (by show w.heap.size ≤ w2.heap.size; omega))⟩
set_option maxRecDepth 100000 in
set_option maxHeartbeats 2000000 in
theorem rnputs_ok (A : Option Addr) (l c : Nat) (ls : List Nat) (w : World) (hl : ls.length = l) (h1 : 1 ≤ l) (hm : l ≤ 320) (hv : ∀ x ∈ ls, x ≤ 15) (hb : Cells w w.heap.size A (nCs ls)) :
    Calls Try.prog 3 #[.slice A l c] w fun e w' => e = .returned (.bool true) ∧ Below w.heap.size w w' := by
  have HLV := Lib.hid lives9_any
  have HZR : Hid (r7B (ls.map (fun n : Nat => (n : Int))) = true) := by show _ = _; rw [r7B, all_right hv, List.length_map, hl]; simp; exact hm
  have HB1 : Hid (Below w.heap.size w (w.alloc (.cells zeroWr 27))) := (Below.refl _ w).alloc (Nat.le_refl _) _
  have HCW : Hid (∀ W, Below w.heap.size w W → Cells W w.heap.size A (nCs ls)) := fun W hW => hb.below hW (Nat.le_refl _)
  have HP := Lib.hid (rnput_any A l c ls w.heap.size w.heap.size (oneB w.heap.size) [] (w.alloc (.cells zeroWr 27)) hl h1 hm hv ((HCW.out _ HB1.out).more (by simp)) (fun a ha hk => by
    obtain ⟨b, o, hab, hbl, _⟩ := hb (by rw [nCs_len]; omega)
    rw [ha] at hab
    cases hab
    have : b = w.heap.size := hk
    omega) (WrS.zero _ (heap_alloc_new w _)) (by simp) (by simp))
  rw [List.nil_append] at HP
  have HR : Hid (∀ W, Below w.heap.size w W → _) := fun W hW => ref7Right_any A l c (ls.map (fun n : Nat => (n : Int))) w.heap.size W (by rw [List.length_map]; exact hl) (by omega) (by rw [nCs_ic]; exact HCW.out W hW)
  rw [HZR.out] at HR
  have HNIL : Hid (∀ W, Below w.heap.size w W → _) := fun W hW => rnput_nil A l c (ls.map (fun n : Nat => (n : Int))) W (by rw [List.length_map]; exact hl) h1 hm (by rw [nCs_ic]; exact (HCW.out W hW).more hW.size)
  have HRF : Hid (∀ W, Below w.heap.size w W → _) := fun W hW => rput9_any A l c ls W hl h1 hm hv ((HCW.out W hW).more hW.size)
  have HTL : Hid ((tabP ls).length ≤ 100000) := by
    show _ ≤ _
    obtain ⟨t, ht⟩ := partsP_ne (ls := ls) (by omega)
    have h2 := partsB_len (lnP_right ht (partsP_all hv t ht)) (partsP ls 0)
    have h3 := parts_few ls
    rw [tabP, List.length_append, List.length_append, bitsOf_length, lensB_len, lnP_len]
    omega
  obtain ⟨L, hL⟩ : ∃ L, tabP ls = L := ⟨_, rfl⟩
  rw [hL] at HP HRF HTL
  have hTL := HTL.out
  have t1 : decide ((320 : Int) < (l : Int)) = false := decide_eq_false (by omega)
  have t2 : decide ((l : Int) < 1) = false := decide_eq_false (by omega)
  have HPL : Hid ((pack L).length ≤ L.length) := pack_length L
  obtain ⟨P, hP⟩ : ∃ P, pack L = P := ⟨_, rfl⟩
  obtain ⟨str, hS⟩ : ∃ str : ByteArray, (⟨P.toArray⟩ : ByteArray) = str := ⟨_, rfl⟩
  have HPK := Lib.hid hP
  have HSTR := Lib.hid hS
  clear hb hl hv h1 hL hP hS HTL
  go_enter Try.func3, Try.ntmps3
  go_wp2_with (first
    | (go_at_call 7; refine HP.out.mono ?_; rintro e w2 ⟨rfl, S2, hw2, hm2, hs2⟩; have HW2 := Lib.hid hw2; have HB2 := Lib.hid (hm2.below HB1.out (by simp) (fun k hk => by cases hk; exact Nat.le_refl _)); clear hw2 hm2 hs2)
    | (go_at_call 9; refine (HR.out _ HB2.out).mono ?_; rintro e w' ⟨rfl, rfl⟩)
    | (go_at_call 10; refine (HRF.out _ HB2.out).mono ?_; rintro e w3 ⟨A3, c3, rfl, hown3, hb3⟩; have HW3 := Lib.hid (HW2.out.keep (Mod.of_below hb3) (fun _ _ h => h)); have HB3 := Lib.hid (HB2.out.trans (hb3.mono HB2.out.size)); have HO3 := Lib.hid hown3; clear hown3 hb3))
  go_region_with (first
    | (go_at_call 7; refine (HNIL.out _ HB3.out.drew).mono ?_; rintro e w4 ⟨rfl, hb4⟩; have HW4 := Lib.hid ((show WrS w3.drew _ _ _ _ from HW3.out).keep (Mod.of_below hb4) (fun _ _ h => h)); have HO4 := Lib.hid (own_keep HO3.out.drew (Mod.of_below hb4) (fun _ _ h => h)); have HB4 := Lib.hid (HB3.out.drew.trans (hb4.mono HB3.out.size)); clear hb4)
    | (go_at_call 8; refine (wlen_any w.heap.size w.heap.size S2 L _ HW4.out (by omega)).mono ?_; rintro e w' ⟨rfl, nd, rfl⟩)
    | (go_at_call 11; refine (wbytes_any w.heap.size w.heap.size S2 L _ (show WrS (w4.drewN nd) _ _ _ _ from HW4.out) (by omega)).mono ?_; rintro e w8 ⟨A8, c8, rfl, hown, hbel⟩; rw [HPK.out] at hown; rw [HPK.out]; have HO8 := Lib.hid (Cells.of_own hown); have HOW8 := Lib.hid (Cells.of_own (own_keep (show OwnB (w4.drewN nd) _ _ _ _ _ from HO4.out) (Mod.of_below hbel) (fun _ _ h => h))); have HBEL8 := Lib.hid ((below_drewQ HB4.out nd).trans (hbel.mono HB4.out.size)); have k8 := str_any w8 A8 P.length c8 _ P HO8.out rfl; rw [HSTR.out] at k8; clear hown hbel)
    | (go_at_call 12; refine (refPack_any A3 L.length c3 w8.heap.size L w8 rfl (by omega) (Nat.le_refl _) HOW8.out).mono ?_; rintro e w9 ⟨A9, c9, rfl, hown, hbel⟩; rw [HPK.out] at hown; rw [HPK.out]; have HO9 := Lib.hid (Cells.of_own hown); have HBEL9 := Lib.hid (HBEL8.out.trans (hbel.mono HBEL8.out.size)); have k9 := str_any w9 A9 P.length c9 _ P HO9.out rfl; rw [HSTR.out] at k9; have k10 := str_any w9 A8 P.length c8 _ P (HO8.out.below hbel (Nat.le_refl _)) rfl; rw [HSTR.out] at k10; clear hown hbel)
    | (go_at_call 6; refine (HLV.out _).mono ?_; rintro e w10 ⟨rfl, hb10⟩; have HB10 := Lib.hid hb10; clear hb10))
  all_goals
    go_wp2
    go_ret
    exact ⟨rfl, HBEL9.out.trans (HB10.out.mono HBEL9.out.size)⟩
theorem rnputs_any (A : Option Addr) (l c : Nat) (zs : List Int) (w : World) (hl : zs.length = l) (hm : l ≤ 9223372036854775807) (hb : Cells w w.heap.size A (zs.map ic)) :
    Calls Try.prog 3 #[.slice A l c] w fun e w' => e = .returned (.bool true) ∧ Below w.heap.size w w' := by
  by_cases h400 : 400 < l
  · have HLV := Lib.hid lives9_any
    clear hb hl
    go_enter Try.func3, Try.ntmps3
    go_wp2_with (go_at_call 6; refine (HLV.out _).mono ?_; rintro e w4 ⟨rfl, hb4⟩; have HB4 := Lib.hid hb4; clear hb4)
    go_ret
    exact ⟨rfl, HB4.out⟩
  by_cases hs : l = 0 ∨ 320 < l
  · exact rnputs_size A l c w hs (by omega)
  cases hr : zs.all lenB with
  | false => exact rnputs_bad A l c zs w hl (by omega) (by omega) hb hr
  | true =>
    obtain ⟨ls, rfl, h2, h3⟩ := right_nats hr
    rw [nCs_ic] at hb
    exact rnputs_ok A l c ls w (by rw [h2]; exact hl) (by omega) (by omega) h3 hb
end Go.Proofs.Ytbpgaaecifnohaa
