/- Layer 9: what is put is taken, what is parted is joined: the law. -/
import Derived.Test.YtbpgaaecifnohaaMgRunsBack45
import Derived.Test.YtbpgaaecifnohaaMgRunsBack27
namespace Go.Proofs.Ytbpgaaecifnohaa
open Go.RowKit BitsP
attribute [local go_sem ↓] Go.wp_at_zero Go.wp_at_succ

theorem below_drewB {B : Nat} {a w : World} (h : Below B a w) (n : Nat) : Below B a (w.drewN n) := ⟨h.os, h.tape, h.output, h.size, h.block⟩
theorem int_cellsB {W : World} {base : Nat} {A : Option Addr} {n c : Nat} {ns : List Nat} (h : W.ownsRow base 3 1 (.slice A n c) n (nCs ns)) : Cells W W.heap.size A ((ns.map fun n : Nat => (n : Int)).map ic) := by
  rw [nCs_ic]
  exact Cells.of_own h
set_option maxRecDepth 100000 in
set_option maxHeartbeats 1000000 in
theorem rnback_size (A : Option Addr) (l c : Nat) (n : Int) (w : World) (h : l = 0 ∨ 320 < l) (h4 : l ≤ 400) :
    Calls Try.prog 5 #[.slice A l c, .int .u32 n] w fun e w' => e = .returned (.bool true) ∧ Below w.heap.size w w' := by
  have HLV := Lib.hid lives9_any
  have HB1 : Hid (Below w.heap.size w (w.alloc (.cells zeroWr 27))) := (Below.refl _ w).alloc (Nat.le_refl _) _
  have HW1 : Hid (WrS (w.alloc (.cells zeroWr 27)) w.heap.size w.heap.size (oneB w.heap.size) []) := WrS.zero _ (heap_alloc_new w _)
  have HWL : Hid (∀ W, Below (w.alloc (.cells zeroWr 27)).heap.size (w.alloc (.cells zeroWr 27)) W → Calls Try.prog 8 #[.pointer (some ⟨w.heap.size, 0, none⟩)] W fun e w' => e = .returned (.int .i64 0) ∧ ∃ n, w' = W.drewN n) := fun W hW =>
    wlen_any w.heap.size w.heap.size (oneB w.heap.size) [] W (HW1.out.keep (Mod.of_below hW) (fun _ _ h => h)) (by simp)
  have HP := Lib.hid (rnput_size A l c (some ⟨w.heap.size, 0, none⟩) (w.alloc (.cells zeroWr 27)) h (by omega))
  clear h
  · skip
    go_enter Try.func5, Try.ntmps5
    go_wp2_with (first
      | (go_at_call 7; refine HP.out.mono ?_; rintro e w2 ⟨rfl, hb2⟩; have HB2 := Lib.hid hb2; clear hb2)
      | (go_at_call 8; refine (HWL.out _ HB2.out).mono ?_; rintro e w3 ⟨rfl, n3, rfl⟩)
      | (go_at_call 6; refine (HLV.out _).mono ?_; rintro e w4 ⟨rfl, hb4⟩; have HB4 := Lib.hid hb4; clear hb4))
    go_ret
    have hs := HB2.out.size
    simp only [World.size_alloc] at hs
    exact ⟨rfl, (below_drewB (HB1.out.trans (HB2.out.mono (by simp))) n3).trans (HB4.out.mono (by show w.heap.size ≤ w2.heap.size; omega))⟩
set_option maxRecDepth 100000 in
set_option maxHeartbeats 1000000 in
theorem rnback_bad (A : Option Addr) (l c : Nat) (n : Int) (zs : List Int) (w : World) (hl : zs.length = l) (h1 : 1 ≤ l) (hm : l ≤ 320) (hb : Cells w w.heap.size A (zs.map ic)) (hr : zs.all lenB = false) :
    Calls Try.prog 5 #[.slice A l c, .int .u32 n] w fun e w' => e = .returned (.bool true) ∧ Below w.heap.size w w' := by
  have HLV := Lib.hid lives9_any
  have HB1 : Hid (Below w.heap.size w (w.alloc (.cells zeroWr 27))) := (Below.refl _ w).alloc (Nat.le_refl _) _
  have HW1 : Hid (WrS (w.alloc (.cells zeroWr 27)) w.heap.size w.heap.size (oneB w.heap.size) []) := WrS.zero _ (heap_alloc_new w _)
  have HWL : Hid (∀ W, Below (w.alloc (.cells zeroWr 27)).heap.size (w.alloc (.cells zeroWr 27)) W → Calls Try.prog 8 #[.pointer (some ⟨w.heap.size, 0, none⟩)] W fun e w' => e = .returned (.int .i64 0) ∧ ∃ n, w' = W.drewN n) := fun W hW =>
    wlen_any w.heap.size w.heap.size (oneB w.heap.size) [] W (HW1.out.keep (Mod.of_below hW) (fun _ _ h => h)) (by simp)
  have HP := Lib.hid (rnput_bad A l c zs (some ⟨w.heap.size, 0, none⟩) (w.alloc (.cells zeroWr 27)) hl h1 hm (hb.alloc (Nat.le_refl _) _ |>.more (by simp)) hr)
  clear hb hl hr h1
  · skip
    go_enter Try.func5, Try.ntmps5
    go_wp2_with (first
      | (go_at_call 7; refine HP.out.mono ?_; rintro e w2 ⟨rfl, hb2⟩; have HB2 := Lib.hid hb2; clear hb2)
      | (go_at_call 8; refine (HWL.out _ HB2.out).mono ?_; rintro e w3 ⟨rfl, n3, rfl⟩)
      | (go_at_call 6; refine (HLV.out _).mono ?_; rintro e w4 ⟨rfl, hb4⟩; have HB4 := Lib.hid hb4; clear hb4))
    go_ret
    have hs := HB2.out.size
    simp only [World.size_alloc] at hs
    exact ⟨rfl, (below_drewB (HB1.out.trans (HB2.out.mono (by simp))) n3).trans (HB4.out.mono (by show w.heap.size ≤ w2.heap.size; omega))⟩
set_option maxRecDepth 100000 in
set_option maxHeartbeats 2000000 in
theorem rnback_ok (A : Option Addr) (l c n : Nat) (ls : List Nat) (w : World) (hl : ls.length = l) (h1 : 1 ≤ l) (hm : l ≤ 320) (hv : ∀ x ∈ ls, x ≤ 15) (hb : Cells w w.heap.size A (nCs ls)) (hn : n < 4294967296) :
    Calls Try.prog 5 #[.slice A l c, .int .u32 (n : Int)] w fun e w' => e = .returned (.bool true) ∧ Below w.heap.size w w' := by
  have HLV := Lib.hid lives9_any
  obtain ⟨F, hF⟩ := funT_ex
  have HB1 : Hid (Below w.heap.size w (w.alloc (.cells zeroWr 27))) := (Below.refl _ w).alloc (Nat.le_refl _) _
  have HCW : Hid (∀ W, Below w.heap.size w W → Cells W w.heap.size A (nCs ls)) := fun W hW => hb.below hW (Nat.le_refl _)
  have HP := Lib.hid (rnput_any A l c ls w.heap.size w.heap.size (oneB w.heap.size) [] (w.alloc (.cells zeroWr 27)) hl h1 hm hv ((HCW.out _ HB1.out).more (by simp)) (fun a ha hk => by
    obtain ⟨b, o, hab, hbl, _⟩ := hb (by rw [nCs_len]; omega)
    rw [ha] at hab
    cases hab
    have : b = w.heap.size := hk
    omega) (WrS.zero _ (heap_alloc_new w _)) (by simp) (by simp))
  rw [List.nil_append] at HP
  have HTL : Hid ((tabP ls).length ≤ 100000) := by
    show _ ≤ _
    obtain ⟨t, ht⟩ := partsP_ne (ls := ls) (by omega)
    have h2 := partsB_len (lnP_right ht (partsP_all hv t ht)) (partsP ls 0)
    have h3 := parts_few ls
    rw [tabP, List.length_append, List.length_append, bitsOf_length, lensB_len, lnP_len]
    omega
  have HPA : Hid (∀ W, Below w.heap.size w W → _) := fun W hW => rnparts_any A l c ls W hl h1 hm hv ((HCW.out W hW).more hW.size)
  have HJO : Hid (∀ (W : World) (A2 : Option Addr) (c2 : Nat), Cells W W.heap.size A2 ((partsP ls 0).map ptC).flatten → _) := fun W A2 c2 hW => rnjoin_any A2 l c2 (partsP ls 0).length ls W.heap.size W hl hm hv rfl hW (Nat.le_refl _)
  obtain ⟨T, hT⟩ : ∃ T, tabP ls = T := ⟨_, rfl⟩
  obtain ⟨bs, hbs⟩ : ∃ bs, pack (T ++ bitsOf n 32) = bs := ⟨_, rfl⟩
  have hun : unpack bs = T ++ (bitsOf n 32 ++ zeros (lack (T ++ bitsOf n 32).length)) := by rw [← hbs, pack_unpack, List.append_assoc]
  have hbl8 : 8 * bs.length = T.length + (32 + (zeros (lack (T ++ bitsOf n 32).length)).length) := by rw [← unpack_length, hun, List.length_append, List.length_append, bitsOf_length]
  have hbk : tkF F (unpack bs) 0 = (0, ls, T.length) := by
    have h := tkF_back hF (L := unpack bs) (p := 0) (ls := ls) (R := bitsOf n 32 ++ zeros (lack (T ++ bitsOf n 32).length)) (by omega) (by omega) hv (by rw [hT, List.drop_zero]; exact hun)
    rw [hT, Nat.zero_add] at h
    exact h
  have hzl : (zeros (lack (T ++ bitsOf n 32).length)).length ≤ 8 := by
    have : lack (T ++ bitsOf n 32).length < 8 := Nat.mod_lt _ (by omega)
    rw [show (zeros (lack (T ++ bitsOf n 32).length)).length = lack (T ++ bitsOf n 32).length from List.length_replicate]
    omega
  rw [hT] at HP HTL
  have hTL := HTL.out
  have hbl : bs.length ≤ 20000 := by omega
  have HTK : Hid (∀ (W : World) (base g : Nat) (S : Nat → Prop), RdS W g base S bs 0 → _) := fun W base g S hW => rntake_any F hF g base S bs 0 W hW (by omega)
  rw [hbk] at HTK
  dsimp only at HTK
  rw [hl] at HTK
  have HT32 : Hid (∀ (W : World) (base g : Nat) (S : Nat → Prop), RdS W g base S bs T.length → Calls Try.prog 22 #[.pointer (some ⟨g, 0, none⟩), .int .i64 32] W fun e w' => e = .returned (.tuple #[.int .u32 (n : Int), .bool true]) ∧ RdS w' g base S bs (T.length + 32) ∧ Mod (oneB g) W w') := fun W base g S hW => by
    have h := rtake_any g base S bs T.length 32 W hW (by omega) (by omega) (by omega)
    have hf : T.length + 32 ≤ 8 * bs.length := by omega
    rw [show cnt 32 = 32 from rfl, (fits_yes hf).1, (fits_yes hf).2, takes_yes hf] at h
    have hx := numA_bits (L := unpack bs) (p := T.length) (n := 32) (x := n) (R := zeros (lack (T ++ bitsOf n 32).length)) (by
      rw [hun]
      exact List.drop_left' rfl) hn
    unfold numA at hx
    rw [hx] at h
    exact h
  have HPK : Hid (pack (T ++ bitsOf n 32) = bs) := hbs
  have HML : Hid ((T ++ bitsOf n 32).length ≤ 1099511627776) := by show _ ≤ _; rw [List.length_append, bitsOf_length]; omega
  have HLL := Lib.hid hl
  clear hb hl hv h1 hT hbs hun hbl8 hbk hzl HTL
  go_enter Try.func5, Try.ntmps5
  go_wp2_with (first
    | (go_at_call 7; refine HP.out.mono ?_; rintro e w2 ⟨rfl, S2, hw2, hm2, hs2⟩; have HW2 := Lib.hid hw2; have HB2 := Lib.hid (hm2.below HB1.out (by simp) (fun k hk => by cases hk; exact Nat.le_refl _)); have HS2 := Lib.hid hs2; clear hw2 hm2 hs2)
    | (go_at_call 8; refine (wlen_any w.heap.size w.heap.size S2 T _ HW2.out (by omega)).mono ?_; rintro e w' ⟨rfl, nd, rfl⟩; have HB2d := Lib.hid (below_drewB HB2.out nd))
    | (go_at_call 19; refine (wput_any w.heap.size w.heap.size S2 T (n : Int) 32 (w2.drewN nd) (show WrS (w2.drewN nd) _ _ _ _ from HW2.out) (by omega) HB2d.out.size (by omega) (by omega) (by omega) (by omega)).mono ?_; rintro e w4 ⟨rfl, S4, hw4, hm4, hs4⟩; rw [show cnt 32 = 32 from rfl, Int.toNat_natCast] at hw4; have HW4 := Lib.hid hw4; have HB4' := Lib.hid (hm4.below HB2d.out HB2d.out.size (fun k hk => (HS2.out k hk).elim (fun h => Nat.le_of_eq (show w.heap.size = k from h.symm)) (fun h => Nat.le_trans (by simp) h))); clear hw4 hm4 hs4)
    | (go_at_call 11; refine (wbytes_any w.heap.size w.heap.size S4 (T ++ bitsOf n 32) w4 HW4.out HML.out).mono ?_; rintro e w5 ⟨A5, c5, rfl, hown, hbel⟩; rw [HPK.out] at hown; rw [HPK.out]; have HO5 := Lib.hid (Cells.of_own hown); have HB5 := Lib.hid (HB4'.out.trans (hbel.mono HB4'.out.size)); clear hown hbel)
    | (go_at_call 13; refine (rnew_any A5 bs.length c5 w5.heap.size bs w5 rfl (by omega) (Nat.le_refl _) HO5.out).mono ?_; rintro e w6 ⟨g6, S6, rfl, hrd6, hb6, hS6⟩; have HR6 := Lib.hid hrd6; have HB6 := Lib.hid (HB5.out.trans (hb6.mono HB5.out.size)); have HG6 : Hid (w5.heap.size ≤ g6) := hS6 g6 (rd_low hrd6).2.2; clear hrd6 hb6 hS6)
    | (go_at_call 14; refine (HTK.out w6 w5.heap.size g6 S6 HR6.out).mono ?_; rintro e w7 ⟨A7, c7, p7, rfl, hown, hrd7, hpe, hm7⟩; obtain rfl := hpe trivial; have HO7 := Lib.hid hown; have HR7 := Lib.hid hrd7; have HB7 := Lib.hid (hm7.below HB6.out HB6.out.size (fun k hk => by cases hk; have := HG6.out; have := HB5.out.size; omega)); clear hown hrd7 hm7)
    | (go_at_call 21; refine (HPA.out w7 HB7.out).mono ?_; rintro e w8 ⟨A8, c8, rfl, hc8, hb8⟩; have HC8 := Lib.hid hc8; have HO8 := Lib.hid (own_keep HO7.out (Mod.of_below hb8) (fun _ _ h => h)); have HR8 := Lib.hid (HR7.out.keep (Mod.of_below hb8) (fun _ _ h => h)); have HB8 := Lib.hid (HB7.out.trans (hb8.mono HB7.out.size)); clear hc8 hb8)
    | (go_at_call 20; refine (HJO.out w8 A8 c8 HC8.out).mono ?_; rintro e w9 ⟨A9, c9, rfl, hown9, hb9⟩; have HO9 := Lib.hid (own_keep HO8.out (Mod.of_below hb9) (fun _ _ h => h)); have HJ9 := Lib.hid hown9; have HR9 := Lib.hid (HR8.out.keep (Mod.of_below hb9) (fun _ _ h => h)); have HB9 := Lib.hid (HB8.out.trans (hb9.mono HB8.out.size)); have HS9 := Lib.hid hb9.size; clear hown9 hb9)
    | (go_at_call 22; refine (HT32.out w9 w5.heap.size g6 S6 HR9.out).mono ?_; rintro e w10 ⟨rfl, hrd10, hm10⟩; have HX := Lib.hid (int_cellsB (own_keep HO9.out hm10 (fun k hk hs => by have h2 : k = g6 := hs; have := own_base HO9.out k hk; have := (rd_low HR6.out).1; omega))); have HY := Lib.hid (int_cellsB (own_keep HJ9.out hm10 (fun k hk hs => by have h2 : k = g6 := hs; have := own_base HJ9.out k hk; have := (rd_low HR8.out).1; omega))); have HR10 := Lib.hid hrd10; have HB10 := Lib.hid (hm10.below HB9.out HB9.out.size (fun k hk => by cases hk; have := HG6.out; have := HB5.out.size; omega)); have HZ := Lib.hid (show Cells w10 w10.heap.size A ((ls.map fun n : Nat => (n : Int)).map ic) by rw [nCs_ic]; exact (HCW.out w10 HB10.out).more HB10.out.size); clear hrd10 hm10)
    | (go_at_call 17; refine (ref7Ints_any A7 A l c7 c (ls.map fun n : Nat => (n : Int)) (ls.map fun n : Nat => (n : Int)) w10.heap.size w10 (by rw [List.length_map]; exact HLL.out) (by rw [List.length_map]; exact HLL.out) (by omega) HX.out HZ.out rfl).mono ?_; rintro e w11 ⟨rfl, m11, rfl⟩; clear HX)
    | (go_at_call 17; refine (ref7Ints_any A9 A l c9 c (ls.map fun n : Nat => (n : Int)) (ls.map fun n : Nat => (n : Int)) w10.heap.size (w10.drewN m11) (by rw [List.length_map]; exact HLL.out) (by rw [List.length_map]; exact HLL.out) (by omega) HY.out HZ.out rfl).mono ?_; rintro e w12 ⟨rfl, m12, rfl⟩)
    | (go_at_call 18; refine (rat_any g6 w5.heap.size S6 bs _ _ (HR10.out.drewN _)).mono ?_; rintro e w' ⟨rfl, rfl⟩)
    | (go_at_call 6; refine (HLV.out _).mono ?_; rintro e w13 ⟨rfl, hb13⟩; have HB13 := Lib.hid hb13; clear hb13))
  go_ret
  exact ⟨rfl, (below_drewB HB10.out _).trans (HB13.out.mono HB10.out.size)⟩
theorem rnback_any (A : Option Addr) (l c : Nat) (n : Int) (zs : List Int) (w : World) (hl : zs.length = l) (hm : l ≤ 9223372036854775807) (hb : Cells w w.heap.size A (zs.map ic)) (n0 : 0 ≤ n) (n1 : n < 4294967296) :
    Calls Try.prog 5 #[.slice A l c, .int .u32 n] w fun e w' => e = .returned (.bool true) ∧ Below w.heap.size w w' := by
  by_cases h400 : 400 < l
  · have HLV := Lib.hid lives9_any
    clear hb hl
    go_enter Try.func5, Try.ntmps5
    go_wp2_with (go_at_call 6; refine (HLV.out _).mono ?_; rintro e w4 ⟨rfl, hb4⟩; have HB4 := Lib.hid hb4; clear hb4)
    go_ret
    exact ⟨rfl, HB4.out⟩
  by_cases hs : l = 0 ∨ 320 < l
  · exact rnback_size A l c n w hs (by omega)
  cases hr : zs.all lenB with
  | false => exact rnback_bad A l c n zs w hl (by omega) (by omega) hb hr
  | true =>
    obtain ⟨m, rfl⟩ := Int.eq_ofNat_of_zero_le n0
    obtain ⟨ls, rfl, h2, h3⟩ := right_nats hr
    rw [nCs_ic] at hb
    exact rnback_ok A l c m ls w (by rw [h2]; exact hl) (by omega) (by omega) h3 hb (by omega)
end Go.Proofs.Ytbpgaaecifnohaa
